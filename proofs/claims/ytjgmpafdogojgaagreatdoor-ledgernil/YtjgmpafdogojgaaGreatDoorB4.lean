/- Seats of two accounts. -/
import Derived.Test.YtjgmpafdogojgaaGreatDoorB3
namespace Go.Proofs.YtjgmpafdogojgaaGreatDoor
open Go.RowKit Go.Maps
set_option linter.unusedVariables false

def acA : Ac := ⟨1, 100, 0, 0, false⟩
def acB : Ac := ⟨2, 0, 50, 7, false⟩
theorem acA_ok : acA.ok := by unfold Ac.ok acA; simp
theorem acB_ok : acB.ok := by unfold Ac.ok acB; simp
theorem rivAB : rivL 10 [acA, acB] = [acB] := by simp [rivL, rivB, acA, acB]
theorem law29 : Keyed Tryz.prog 29 := int_keyed Tryz.underlying29
def heldElem (v : Value) : Option (DataW Value × List MemPlace) := some (.held v, [])
theorem zero24 (w : World) : (zeroValue 24).run Tryz.prog w = .ok (.int .u64 0) w := by kernel_rfl
theorem mapTurn {w w' : World} {b : Nat} (h : w.mapTurned w' b) : Turn (fun k => k = b) w w' :=
  (Turn.refl _ w).grown h.grown (fun k q _ => (Option.some.inj q).symm)
theorem ownsMap_turn {S : Nat → Prop} {w w' : World} {k : TypeId} {R : Value → Option (DataW Value × List MemPlace)} {b n : Nat} {D : DataW Value} (h : w.ownsMap Tryz.prog k R b n D) (t : Turn S w w') (hn : ¬ S b) : w'.ownsMap Tryz.prog k R b n D := by
  obtain ⟨es, clock, hb, r⟩ := h
  exact ⟨es, clock, t.obj hb hn, r⟩
theorem own1 {w : World} {v : Value} {m : Ac} (h : OwnN w 55 5 v 1 (acC [m])) : ∃ g c, v = .slice (some ⟨g, 0, none⟩) 1 c ∧ 1 ≤ c ∧ w.cell? ⟨g, 0, none⟩ = some (.int .u64 m.ad) ∧ w.cell? ⟨g, 1, none⟩ = some (.int .u64 m.bal) ∧ w.cell? ⟨g, 2, none⟩ = some (.int .u64 m.bond) ∧ w.cell? ⟨g, 3, none⟩ = some (.int .u64 m.nonce) ∧ w.cell? ⟨g, 4, none⟩ = some (.bool m.jail) := by
  have hc := fun (g : Nat) (hg : v.ownBlock = some g) (j : Nat) (u : Value) (hu : (acC [m])[j]? = some u) => World.ownsRow.cells h (g := g) hg j u hu
  rcases h.2 with ⟨_, q⟩ | ⟨g, c, cur, rfl, _, _, h1, _⟩
  · cases q
  · have hc := fun j u hu => by
      have := hc g rfl j u hu
      rwa [Addr.add_lit, Nat.zero_add] at this
    exact ⟨g, c, rfl, h1, hc 0 _ rfl, hc 1 _ rfl, hc 2 _ rfl, hc 3 _ rfl, hc 4 _ rfl⟩
theorem key29 (n : Nat) (h : n < 18446744073709551616) : keyOf Tryz.prog 29 (.int .u64 (n : Int)) = some (.int .u64 n) := keyOf_int_mk Tryz.underlying29 (by
  simp only [Lit.wf, Bool.and_eq_true, decide_eq_true_eq]
  constructor
  · rw [show IntKind.u64.min = 0 by decide]; omega
  · rw [show IntKind.u64.max = 18446744073709551615 by decide]; omega)
theorem info61 : (Tryz.prog.info? 61).map (fun i => (i.zero, i.size, i.bytes)) = some (some (.agg #[.int .u64 0, .int .u64 0, .int .i64 0]), 3, 24) := by kernel_rfl
theorem src_mem (W : World) : Src Tryz.prog 3 56 (.slice (some ⟨W.heap.size, 0, none⟩) 1 1) 1 [.int .u64 2, .int .u64 50, .int .i64 0] (W.alloc (.cells #[.int .u64 2, .int .u64 50, .int .i64 0] 61)) := by
  refine Src.ofSlice _ Tryz.underlying56 _ 1 1 _ rfl (fun j u hu => ?_) (fun u hu => ?_)
  · rw [Addr.add_lit, Nat.zero_add]
    exact cell_of_row _ _ j _ 61 (0, 0) (heap_alloc_new W _) ▸ (by simpa using hu)
  · simp at hu
    rcases hu with rfl | rfl | rfl <;> rfl
def pz : Array Value := #[.int .u64 10, .int .i64 2, .int .u64 0, .int .u64 0, .int .u64 0, .int .i64 0, .int .u64 0, .int .u64 0, .int .u64 0, .int .u64 0, .int .u64 0, .int .u64 0]
theorem held_inv {v : Value} {d : DataW Value} {ps : List MemPlace} (h : heldElem v = some (d, ps)) : d = .held v := by simp [heldElem] at h; exact h.1.symm
def D1 : DataW Value := (DataW.map []).put (.int .u64 2) (.held (.int .u64 50))
set_option maxRecDepth 100000 in
set_option maxHeartbeats 4000000 in
theorem seats9 (w : World) (a : Addr) (cap : Nat) (h : AsAt w (some a) cap [acA, acB]) (b s : Int) : Calls Tryz.prog 9 #[.agg #[.slice (some a) 2 cap, .slice none 0 0, .int .u64 b, .int .u64 s], .agg pz] w fun e w' =>
    ∃ g c, e = .returned (.slice (some ⟨g, 0, none⟩) 1 c) ∧ 1 ≤ c ∧ w'.cell? ⟨g, 0, none⟩ = some (.int .u64 2) ∧ w'.cell? ⟨g, 1, none⟩ = some (.int .u64 50) ∧ Turn no w w' := by
  obtain ⟨w0, hw0⟩ : ∃ w0, (w.alloc (.cells #[.slice (some a) 2 cap, .slice none 0 0, .int .u64 b, .int .u64 s] 26)).alloc (.cells pz 28) = w0 := ⟨_, rfl⟩
  have T0 : Turn no w w0 := by rw [← hw0]; exact ((Turn.refl no w).alloc _).alloc _
  have g0 : w0.cell? ⟨w.heap.size, 0, none⟩ = some (.slice (some a) 2 cap) := by rw [← hw0]; simp
  have p0 : w0.cell? ⟨w.heap.size + 1, 0, none⟩ = some (.int .u64 10) := by rw [← hw0]; unfold pz; simp
  have p1 : w0.cell? ⟨w.heap.size + 1, 1, none⟩ = some (.int .i64 2) := by rw [← hw0]; unfold pz; simp
  have hr : Calls Tryz.prog 24 #[.slice (some a) 2 cap, .int .u64 10] w0 _ := rivals24 w0 _ [acA, acB] ⟨some a, cap, rfl, h.turn_no T0⟩ 10 (by decide)
  have HA := shut (h.turn_no T0)
  have HT0 := shut T0
  have HW : Shut (w.heap.size + 2 ≤ w0.heap.size) := by show _ ≤ _; rw [← hw0]; simp
  clear h T0
  go_enter Tryz.func9, Tryz.ntmps9
  go_wp2_with fail
  refine hr.mono ?_
  rintro e w1 ⟨v1, rfl, O1, f1, t1⟩
  rw [rivAB] at O1
  obtain ⟨g1, c1, rfl, hc1, x0, x1, x2, x3, x4⟩ := own1 O1
  have g0 := t1.keep g0 (fun q => q)
  have p1 := t1.keep p1 (fun q => q)
  have HA1 := shut (HA.out.turn_no t1)
  have HT1 := shut (HT0.out.then_no t1)
  have HW1 : Shut (w.heap.size + 2 ≤ w1.heap.size) := Nat.le_trans HW.out t1.size
  have HF := shut (f1 g1 rfl)
  clear hr t1 p0 HA HT0 HW O1 f1 hw0
  go_wp2_with fail
  refine (sort25 w1 _ _ _).mono ?_
  rintro e w' ⟨rfl, rfl⟩
  have m1 := fun W => run_makeMap (P := Tryz.prog) 84 W
  go_wp2_with fail
  have t2 : Turn no w' (w'.alloc (.map #[] 0)) := (Turn.refl no w').alloc _
  have o2 := World.ownsMap_made w' Tryz.prog 29 heldElem
  have hlt : ∀ {p : Addr} {u : Value}, w'.cell? p = some u → ¬ p.block = w'.heap.size := fun hc e => by
    have := World.block_lt_of_cell? w' _ hc
    omega
  have HLT : Shut (∀ {p : Addr} {u : Value}, w'.cell? p = some u → ¬ p.block = w'.heap.size) := hlt
  clear hlt
  obtain ⟨b0, off0, ea, y0, y1, y2, y3, y4⟩ := HA1.out.cells 0 acA rfl
  obtain ⟨b1, off1, eb, z0, z1, z2, z3, z4⟩ := HA1.out.cells 1 acB rfl
  cases ea
  cases eb
  have HK : Shut (∀ W, Turn (fun k => k = w'.heap.size) w' W → W.cell? ⟨w.heap.size, 0, none⟩ = some (.slice (some ⟨b0, off0, none⟩) 2 cap) ∧ (W.cell? ⟨g1, 0, none⟩ = some (.int .u64 2) ∧ W.cell? ⟨g1, 1, none⟩ = some (.int .u64 0) ∧ W.cell? ⟨g1, 2, none⟩ = some (.int .u64 50) ∧ W.cell? ⟨g1, 3, none⟩ = some (.int .u64 7) ∧ W.cell? ⟨g1, 4, none⟩ = some (.bool false)) ∧
      (W.cell? ⟨b0, off0, none⟩ = some (.int .u64 1) ∧ W.cell? ⟨b0, off0 + 1, none⟩ = some (.int .u64 100) ∧ W.cell? ⟨b0, off0 + 2, none⟩ = some (.int .u64 0) ∧ W.cell? ⟨b0, off0 + 3, none⟩ = some (.int .u64 0) ∧ W.cell? ⟨b0, off0 + 4, none⟩ = some (.bool false)) ∧
      (W.cell? ⟨b0, off0 + 5, none⟩ = some (.int .u64 2) ∧ W.cell? ⟨b0, off0 + 5 + 1, none⟩ = some (.int .u64 0) ∧ W.cell? ⟨b0, off0 + 5 + 2, none⟩ = some (.int .u64 50) ∧ W.cell? ⟨b0, off0 + 5 + 3, none⟩ = some (.int .u64 7) ∧ W.cell? ⟨b0, off0 + 5 + 4, none⟩ = some (.bool false))) := fun W t =>
    ⟨t.keep g0 (HLT.out g0), ⟨t.keep x0 (HLT.out x0), t.keep x1 (HLT.out x1), t.keep x2 (HLT.out x2), t.keep x3 (HLT.out x3), t.keep x4 (HLT.out x4)⟩, ⟨t.keep y0 (HLT.out y0), t.keep y1 (HLT.out y1), t.keep y2 (HLT.out y2), t.keep y3 (HLT.out y3), t.keep y4 (HLT.out y4)⟩, ⟨t.keep z0 (HLT.out z0), t.keep z1 (HLT.out z1), t.keep z2 (HLT.out z2), t.keep z3 (HLT.out z3), t.keep z4 (HLT.out z4)⟩⟩
  have HTM : Shut (∀ W, Turn (fun k => k = w'.heap.size) w' W → Turn no w W) := fun W t => HT1.out.trans t (fun i hi e => by have := HW1.out; omega)
  clear g0 x0 x1 x2 x3 x4 y0 y1 y2 y3 y4 z0 z1 z2 z3 z4 p1 m1 HA1 HLT
  have HT2 := shut t2
  have HO2 := shut o2
  clear t2 o2
  generalize w'.alloc (.map #[] 0) = w2 at *
  obtain ⟨M, hM⟩ : ∃ M, w'.heap.size = M := ⟨_, rfl⟩
  rw [hM] at HO2 HK HTM
  simp only [hM]
  clear hM
  go_loopw [34] (fun x wr => (x = .int .i64 0 ∧ wr = w2) ∨ (x = .int .i64 1 ∧ Shut (Turn (fun k => k = M) w' wr ∧ wr.ownsMap Tryz.prog 29 heldElem M 1 D1))) (fun x _ => 1 - (intOf x).toNat)
  case atStart => exact Or.inl ⟨rfl, rfl⟩
  case round =>
    rcases hrel with ⟨rfl, rfl⟩ | ⟨rfl, HI⟩
    · obtain ⟨_, ⟨x0, x1, x2, x3, x4⟩, _, _⟩ := HK.out wr HT2.out.of_no
      have t3 : Turn no wr (wr.alloc (.cells #[.int .u64 2, .int .u64 0, .int .u64 50, .int .u64 7, .bool false] 55)) := (Turn.refl no wr).alloc _
      obtain ⟨w4, hst, o4, mt⟩ := (ownsMap_turn HO2.out t3 (fun q => q)).store law29 Tryz.underlying84 (by simp [maxLen]) (key29 2 (by omega)) (val := .int .u64 50) (d := .held (.int .u64 50)) (ps := []) rfl
      have hst : (Instr.mapUpdate 84 (.map (some M)) (.int .u64 2) (.int .u64 50)).run Tryz.prog (wr.alloc (.cells #[.int .u64 2, .int .u64 0, .int .u64 50, .int .u64 7, .bool false] 55)) = .ok () w4 := hst
      have HN : Shut (Turn (fun k => k = M) w' w4 ∧ w4.ownsMap Tryz.prog 29 heldElem M 1 D1) := ⟨((HT2.out.then_no t3).of_no).trans (mapTurn mt) (fun _ _ e => e), o4⟩
      clear t3 o4 mt
      go_wp2_with fail
      go_roundw
      case rel => exact Or.inr ⟨rfl, HN⟩
      case measure => simp [intOf]
    · obtain ⟨g0, _, ⟨y0, y1, y2, y3, y4⟩, ⟨z0, z1, z2, z3, z4⟩⟩ := HK.out wr HI.out.1
      have HK2 : Shut (∀ W, Turn no wr W → (W.cell? ⟨b0, off0, none⟩ = some (.int .u64 1) ∧ W.cell? ⟨b0, off0 + 1, none⟩ = some (.int .u64 100) ∧ W.cell? ⟨b0, off0 + 2, none⟩ = some (.int .u64 0) ∧ W.cell? ⟨b0, off0 + 3, none⟩ = some (.int .u64 0) ∧ W.cell? ⟨b0, off0 + 4, none⟩ = some (.bool false)) ∧
        (W.cell? ⟨b0, off0 + 5, none⟩ = some (.int .u64 2) ∧ W.cell? ⟨b0, off0 + 5 + 1, none⟩ = some (.int .u64 0) ∧ W.cell? ⟨b0, off0 + 5 + 2, none⟩ = some (.int .u64 50) ∧ W.cell? ⟨b0, off0 + 5 + 3, none⟩ = some (.int .u64 7) ∧ W.cell? ⟨b0, off0 + 5 + 4, none⟩ = some (.bool false)) ∧ W.ownsMap Tryz.prog 29 heldElem M 1 D1 ∧ Turn no w W) := fun W t =>
        ⟨⟨t.keep y0 (fun q => q), t.keep y1 (fun q => q), t.keep y2 (fun q => q), t.keep y3 (fun q => q), t.keep y4 (fun q => q)⟩, ⟨t.keep z0 (fun q => q), t.keep z1 (fun q => q), t.keep z2 (fun q => q), t.keep z3 (fun q => q), t.keep z4 (fun q => q)⟩, ownsMap_turn HI.out.2 t (fun q => q), (HTM.out wr HI.out.1).then_no t⟩
      clear y0 y1 y2 y3 y4 z0 z1 z2 z3 z4 HK HTM HI
      go_wp2_with fail
      obtain ⟨wo, rfl⟩ : ∃ wo : World, wo = wr := ⟨_, rfl⟩
      clear g0
      go_loopw [10, 47] (fun r c wr => (r = .slice none 0 0 ∧ c = .int .i64 0 ∧ Shut (Turn no wo wr)) ∨ (r = .slice none 0 0 ∧ c = .int .i64 1 ∧ Shut (Turn no wo wr)) ∨ (c = .int .i64 2 ∧ ∃ g cc, r = .slice (some ⟨g, 0, none⟩) 1 cc ∧ Shut (1 ≤ cc ∧ wr.cell? ⟨g, 0, none⟩ = some (.int .u64 2) ∧ wr.cell? ⟨g, 1, none⟩ = some (.int .u64 50) ∧ Turn no wo wr))) (fun _ c _ => 2 - (intOf c).toNat)
      case atStart => exact Or.inl ⟨rfl, rfl, Turn.refl _ _⟩
      case round =>
        rcases hrel with ⟨rfl, rfl, HI⟩ | ⟨rfl, rfl, HI⟩ | ⟨rfl, g, cc, rfl, HI⟩
        · obtain ⟨⟨y0, y1, y2, y3, y4⟩, _, om, _⟩ := HK2.out wr HI.out
          have t5 : Turn no wr (wr.alloc (.cells #[.int .u64 1, .int .u64 100, .int .u64 0, .int .u64 0, .bool false] 55)) := (Turn.refl no wr).alloc _
          obtain ⟨vv, ps, hlk, _⟩ := (ownsMap_turn om t5 (fun q => q)).look_ok law29 Tryz.underlying84 (zero24 _) (zd := .held (.int .u64 0)) (zp := []) rfl (key29 1 (by omega))
          have hlk : (Instr.lookup 84 (.map (some M)) (.int .u64 1) true).run Tryz.prog (wr.alloc (.cells #[.int .u64 1, .int .u64 100, .int .u64 0, .int .u64 0, .bool false] 55)) = .ok (.tuple #[vv, .bool false]) (wr.alloc (.cells #[.int .u64 1, .int .u64 100, .int .u64 0, .int .u64 0, .bool false] 55)) := hlk
          have HT5 := shut (HI.out.then_no t5)
          clear om t5
          go_wp2_with fail
          go_roundw
          case rel => exact Or.inr (Or.inl ⟨rfl, rfl, HT5⟩)
          case measure => simp [intOf]
        · obtain ⟨_, ⟨z0, z1, z2, z3, z4⟩, om, _⟩ := HK2.out wr HI.out
          have t5 : Turn no wr (wr.alloc (.cells #[.int .u64 2, .int .u64 0, .int .u64 50, .int .u64 7, .bool false] 55)) := (Turn.refl no wr).alloc _
          obtain ⟨vv, ps, hlk, hv⟩ := (ownsMap_turn om t5 (fun q => q)).look_ok law29 Tryz.underlying84 (zero24 _) (zd := .held (.int .u64 0)) (zp := []) rfl (key29 2 (by omega))
          have ev : vv = .int .u64 50 := by
            have h1 := held_inv hv
            have h2 : D1.atKey (.int .u64 2) (.held (.int .u64 0)) = .held (.int .u64 50) := by kernel_rfl
            have h3 : (DataW.held (.int .u64 50) : DataW Value) = .held vv := h2.symm.trans h1
            simpa using h3.symm
          subst ev
          have hlk : (Instr.lookup 84 (.map (some M)) (.int .u64 2) true).run Tryz.prog (wr.alloc (.cells #[.int .u64 2, .int .u64 0, .int .u64 50, .int .u64 7, .bool false] 55)) = .ok (.tuple #[.int .u64 50, .bool true]) (wr.alloc (.cells #[.int .u64 2, .int .u64 0, .int .u64 50, .int .u64 7, .bool false] 55)) := hlk
          have hs1 := src_mem (wr.alloc (.cells #[.int .u64 2, .int .u64 0, .int .u64 50, .int .u64 7, .bool false] 55))
          rw [show (wr.alloc (.cells #[.int .u64 2, .int .u64 0, .int .u64 50, .int .u64 7, .bool false] 55)).heap.size = wr.heap.size + 1 by simp] at hs1
          have t6 : Turn no wr ((wr.alloc (.cells #[.int .u64 2, .int .u64 0, .int .u64 50, .int .u64 7, .bool false] 55)).alloc (.cells #[.int .u64 2, .int .u64 50, .int .i64 0] 61)) := t5.alloc _
          have HT6 := shut (HI.out.then_no t6)
          clear om t5 hv t6
          go_wp2_with (at_builtin; refine wpList_append_srcN rfl _ _ rfl Tryz.underlying56 info61 rfl (by omega) (.slice none 0 0) 0 [] rfl (OwnN.nil _ _ _) _ 1 [.int .u64 2, .int .u64 50, .int .i64 0] rfl hs1 (by omega) (by simp [maxLen]) ?_; intro v2 w5 O2 G2)
          have T7 : Turn no wo w5 := HT6.out.then_no (G2.turn.mono (fun k _ e => by cases e))
          have hc := fun (g : Nat) (hg : v2.ownBlock = some g) (j : Nat) (u : Value) (hu : ([] ++ [Value.int .u64 2, .int .u64 50, .int .i64 0])[j]? = some u) => World.ownsRow.cells O2 (g := g) hg j u hu
          rcases O2.2 with ⟨_, q⟩ | ⟨g, cc, cur, rfl, _, _, h1, _⟩
          · cases q
          · have hc := fun j u hu => by
              have := hc g rfl j u hu
              rwa [Addr.add_lit, Nat.zero_add] at this
            exact ⟨Or.inr (Or.inr ⟨rfl, g, cc, rfl, by omega, hc 0 _ rfl, hc 1 _ rfl, T7⟩), by simp [intOf]⟩
        · obtain ⟨_, _, _, TT⟩ := HK2.out wr HI.out.2.2.2
          have HTT := shut TT
          clear TT
          go_wp2_with fail
          go_ret
          exact ⟨g, cc, rfl, HI.out.1, HI.out.2.1, HI.out.2.2.1, HTT.out⟩
end Go.Proofs.YtjgmpafdogojgaaGreatDoor
