/- has: is a record in the book? -/
import Derived.Test.YtnlcngcilojnkaaDoorS3
import Derived.Deep.RegionHeld3
namespace Go.Proofs.YtnlcngcilojnkaaDoor
open Go.RowKit Go.Maps Go.MuLone
set_option linter.unusedVariables false
section
variable {w : World} {p br bt n : Nat} {D1 D2 : DataW Value}

/-- What a look-up of a record gives, in whatever world has the map. -/
theorem look86 (W : World) (h : W.ownsMap Tryd.prog 86 unitElem br n D1) (a : UInt64) (s : ByteArray) (hs : s.size ≤ maxLen) :
    (Instr.lookup 54 (.map (some br)) (recV a s) true).run Tryd.prog W = .ok (.tuple #[.agg #[], .bool (has D1 (recKey Tryd.prog a s))]) W := by
  obtain ⟨v, ps, hlook, hv⟩ := h.look_ok law86 Tryd.underlying54 (zero47 _) (zd := .agg []) (zp := []) unitElem_mk (recKey_of a s hs)
  obtain ⟨rfl, _⟩ := unitElem_inv hv
  exact hlook

set_option maxRecDepth 100000 in
set_option maxHeartbeats 2000000 in
theorem has32 (h : Reg w p br bt n D1 D2) (a : UInt64) (s : ByteArray) (hs : s.size ≤ maxLen) : Calls Tryd.prog 32 #[.pointer (some ⟨p, 0, none⟩), recV a s] w fun e w' =>
    e = .returned (.bool (has D1 (recKey Tryd.prog a s))) ∧ Reg w' p br bt n D1 D2 ∧ Turn (fun k => k = p) w w' := by
  have T0 : Turn no w (w.alloc (.cells #[.int .u64 a.toNat, .string s] 86)) := (Turn.refl no w).alloc _
  have h0 := h.turn T0 (fun q => q) (fun q => q) (fun q => q)
  have B0 := Row.new w #[.int .u64 a.toNat, .string s] 86
  have hbp : w.heap.size ≠ p := fun q => by have := Row.lt h.row; omega
  have hl := lock_free muLib ⟨p, 1, none⟩ _ h0.c1 h0.f1
  have R1 := h0.held
  have T1 := held_turn (w.alloc (.cells #[.int .u64 a.toNat, .string s] 86)) p
  have B1 := B0.turn T1 (fun q => hbp q)
  have n1 := h.ne1
  have n2 := h.ne2
  have o1 := ownsMap_turn h0.recs T1 (fun q => n1 q)
  have o2 := ownsMap_turn h0.texts T1 (fun q => n2 q)
  have T2 : Turn (fun k => k = p) w ((w.alloc (.cells #[.int .u64 a.toNat, .string s] 86)).setCell ⟨p, 1, none⟩ (.int .i32 1)) := (T0.of_no).trans T1 (fun _ _ q => q)
  have hap := h.apart
  have hk := fun W (hW : W.ownsMap Tryd.prog 86 unitElem br n D1) => look86 W hW a s hs
  generalize has D1 (recKey Tryd.prog a s) = B at *
  clear h h0 T0 T1 B0
  unfold recV at *
  go_enter_defers Tryd.func32, Tryd.ntmps32
  go_wp2_with fail
  refine hl.mono ?_
  rintro e w' ⟨rfl, rfl⟩
  go_wp2_with fail
  generalize (w.alloc (.cells #[.int .u64 a.toNat, .string s] 86)).setCell ⟨p, 1, none⟩ (.int .i32 1) = wr at *
  generalize w.heap.size = g at *
  refine wp_region_noPanic ?_
  refine wp_region_held_drew (S := fun W => Turn no wr W) (by kernel_rfl) (Turn.refl no wr).drew (fun hHeld => ?_)
  refine' wpAnyH_take (i := 0) (v := .pointer (some ⟨p, 0, none⟩)) rfl (by kernel_rfl) (by kernel_rfl) (by kernel_rfl) (fun _ _ _ h => h) (Or.inl ⟨by rfl, fun W hW => ?y1⟩) hHeld ?r1
  · go_simp
  refine' wpAnyH_take (i := 1) (v := .pointer (some ⟨p, 0, none⟩)) rfl (by kernel_rfl) (by kernel_rfl) (by kernel_rfl) (fun _ _ _ h => h) (Or.inl ⟨by rfl, fun W hW => ?y2⟩) hHeld ?r2
  · go_simp
  refine' wpAnyH_take (i := 2) (v := .pointer (some ⟨p, 3, none⟩)) rfl (by kernel_rfl) (by kernel_rfl) (by kernel_rfl) (fun _ _ _ h => h) (Or.inl ⟨by rfl, fun W hW => ?y3⟩) hHeld ?r3
  · go_simp
  refine' wpAnyH_take (i := 3) (v := .map (some br)) rfl (by kernel_rfl) (by kernel_rfl) (by kernel_rfl) (fun _ _ _ h => h) (Or.inl ⟨by rfl, fun W hW => ?y4⟩) hHeld ?r4
  · have c : W.cell? ⟨p, 3, none⟩ = some (.map (some br)) := (R1.turn hW (fun q => q)).cell 3 _ rfl
    go_simp
  refine' wpAnyH_take (i := 4) (v := .agg #[.int .u64 a.toNat, .string s]) rfl (by kernel_rfl) (by kernel_rfl) (by kernel_rfl) (fun _ _ _ h => h) (Or.inl ⟨by rfl, fun W hW => ?y5⟩) hHeld ?r5
  · have c : W.cell? ⟨g, 0, none⟩ = some (.int .u64 a.toNat) := (B1.turn hW (fun q => q)).cell 0 _ rfl
    have c' : W.cell? ⟨g, 1, none⟩ = some (.string s) := (B1.turn hW (fun q => q)).cell 1 _ rfl
    go_simp
  refine' wpAnyH_take (i := 5) (v := .tuple #[.agg #[], .bool B]) rfl (by kernel_rfl) (by kernel_rfl) (by kernel_rfl) (fun _ _ _ h => h) (Or.inl ⟨by rfl, fun W hW => ?y6⟩) hHeld ?r6
  · have c := hk W (ownsMap_turn o1 hW (fun q => q))
    go_simp
  refine' wpAnyH_take (i := 6) (v := .tuple #[.agg #[], .bool B]) rfl (by kernel_rfl) (by kernel_rfl) (by kernel_rfl) (fun _ _ _ h => h) (Or.inl ⟨by rfl, fun W hW => ?y7⟩) hHeld ?r7
  · go_simp
  refine' wpAnyH_take (i := 7) (v := .agg #[]) rfl (by kernel_rfl) (by kernel_rfl) (by kernel_rfl) (fun _ _ _ h => h) (Or.inl ⟨by rfl, fun W hW => ?y8⟩) hHeld ?r8
  · go_simp
  refine' wpAnyH_take (i := 8) (v := .bool B) rfl (by kernel_rfl) (by kernel_rfl) (by kernel_rfl) (fun _ _ _ h => h) (Or.inl ⟨by rfl, fun W hW => ?y9⟩) hHeld ?r9
  · go_simp
  refine wpAnyH_ready (rs := [9]) (by kernel_rfl) (by simp) ?_
  refine AllReadyH.cons rfl (fun K hK => ?_) AllReadyH.nil
  go_simp
  refine hK.out _ _ ((Turn.refl no wr).alloc _).drew (fun hHeld => ?_)
  clear hK
  refine wpAnyH_ready (rs := [10]) (by kernel_rfl) (by simp) ?_
  refine AllReadyH.cons rfl (fun K hK => ?_) AllReadyH.nil
  go_simp
  refine hK.out _ _ hHeld (fun hHeld => ?_)
  clear hK
  refine wpAnyH_ready (rs := [11]) (by kernel_rfl) (by simp) ?_
  refine AllReadyH.cons rfl (fun K hK => ?_) AllReadyH.nil
  go_simp
  refine hK.out _ _ hHeld (fun hHeld => ?_)
  clear hK
  refine wpAnyH_done (by kernel_rfl) ?_ _
  refine NoPanic.normal ?_
  have R2 := R1.turn hHeld (fun q => q)
  have o3 := ownsMap_turn o1 hHeld (fun q => q)
  have o4 := ownsMap_turn o2 hHeld (fun q => q)
  have T3 := T2.then_no hHeld
  generalize (wr.alloc (.cells #[] 47)).drew = w2 at *
  go_wp2_with fail
  refine leaves_cons (f := 27) (args := #[.pointer (some ⟨p, 1, none⟩)]) (by simp) (by simp [go_sem]) ?_
  refine (unlock_deferred muLib ⟨p, 1, none⟩ .returning _ (R2.cell 1 _ rfl) (R2.frozen 1)).mono ?_
  rintro e u' w'' ⟨rfl, rfl, rfl⟩
  exact ⟨_, results_tmp rfl _ _ _, rfl, Reg.free R2 o3 o4 hap, T3.setCell (fun _ => rfl) _⟩
end
end Go.Proofs.YtnlcngcilojnkaaDoor
