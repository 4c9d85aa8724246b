/- note: a record is entered in the book. -/
import Derived.Test.YtgbcdjjnpadddaaGreatDoorSr
namespace Go.Proofs.YtgbcdjjnpadddaaGreatDoor
open Go.RowKit Go.Maps Go.MuLone
set_option linter.unusedVariables false
section
variable {w : World} {p br bt n : Nat} {D1 D2 : DataW Value}

theorem info9 : (Tryz.prog.info? 9).map (fun i => (i.zero, i.size, i.bytes)) = some (some (.string ⟨#[]⟩), 1, 16) := by kernel_rfl

theorem wp_append_run {P : Program} {o : Oper} {a : Act} {w : World} {K : Act → World → Prop} {Q : Exit → Act → World → Prop} (s x : Operand) {t tx : TypeId}
    (ho : o.op = .call { callee := .builtin .append, args := #[s, x], argTypes := #[t, tx] }) (v xv : Value) (hs : a.eval s = v) (hx : a.eval x = xv) {v' : Value} {w' : World}
    (hr : (Builtin.append_ #[t, tx] o.type #[v, xv]).run P w = .ok v' w') (h : K (a.put o.dst v') w') : Oper.wp P o a w K Q := by
  unfold Oper.wp execOp
  simp only [ho, resolve, invoke, builtin, Sem.run_bind, Sem.run_pure, Result.andThen_ok, List.map_toArray, List.map_cons, List.map_nil, hs, hx, hr]
  exact h

set_option maxRecDepth 100000 in
set_option maxHeartbeats 2000000 in
theorem note_old (h : Reg w p br bt n D1 D2) (a : UInt64) (s : ByteArray) (hs : s.size ≤ maxLen) (hin : has D1 (recKey Tryz.prog a s) = true) : Calls Tryz.prog 85 #[.pointer (some ⟨p, 0, none⟩), recV a s] w fun e w' =>
    e = .returned (.tuple #[]) ∧ Reg w' p br bt n D1 D2 ∧ Turn (fun k => k = p) w w' := by
  have T0 : Turn no w (w.alloc (.cells #[.int .u64 a.toNat, .string s] 182)) := (Turn.refl no w).alloc _
  have h0 := h.turn T0 (fun q => q) (fun q => q) (fun q => q)
  have B0 := Row.new w #[.int .u64 a.toNat, .string s] 182
  have hbp : w.heap.size ≠ p := fun q => by have := Row.lt h.row; omega
  have hl := lock_free muLib ⟨p, 1, none⟩ _ h0.c1 h0.f1
  have R1 := h0.held
  have T1 := held_turn (w.alloc (.cells #[.int .u64 a.toNat, .string s] 182)) p
  have B1 := B0.turn T1 (fun q => hbp q)
  have n1 := h.ne1
  have n2 := h.ne2
  have o1 := ownsMap_turn h0.recs T1 (fun q => n1 q)
  have o2 := ownsMap_turn h0.texts T1 (fun q => n2 q)
  have T2 : Turn (fun k => k = p) w ((w.alloc (.cells #[.int .u64 a.toNat, .string s] 182)).setCell ⟨p, 1, none⟩ (.int .i32 1)) := (T0.of_no).trans T1 (fun _ _ q => q)
  have hap := h.apart
  have hk := fun W (hW : W.ownsMap Tryz.prog 182 unitElem br n D1) => look86 W hW a s hs
  rw [hin] at hk
  clear h h0 T0 T1 B0
  unfold recV at *
  go_enter_defers Tryz.func85, Tryz.ntmps85
  go_wp2_with fail
  refine hl.mono ?_
  rintro e w' ⟨rfl, rfl⟩
  go_wp2_with fail
  generalize (w.alloc (.cells #[.int .u64 a.toNat, .string s] 182)).setCell ⟨p, 1, none⟩ (.int .i32 1) = wr at *
  generalize w.heap.size = g at *
  refine wp_region_noPanic ?_
  refine wp_region_held_drew (S := fun W => Turn no wr W) (by kernel_rfl) (Turn.refl no wr).drew (fun hHeld => ?_)
  refine' wpAnyH_take (i := 0) (v := .pointer (some ⟨p, 0, none⟩)) rfl (by kernel_rfl) (by kernel_rfl) (by kernel_rfl) (fun _ _ _ h => h) (Or.inl ⟨by kernel_rfl, fun W hW => ?y1⟩) hHeld ?r1
  · go_simp
  refine' wpAnyH_take (i := 1) (v := .pointer (some ⟨p, 0, none⟩)) rfl (by kernel_rfl) (by kernel_rfl) (by kernel_rfl) (fun _ _ _ h => h) (Or.inl ⟨by kernel_rfl, fun W hW => ?y2⟩) hHeld ?r2
  · go_simp
  refine' wpAnyH_take (i := 2) (v := .pointer (some ⟨p, 3, none⟩)) rfl (by kernel_rfl) (by kernel_rfl) (by kernel_rfl) (fun _ _ _ h => h) (Or.inl ⟨by kernel_rfl, fun W hW => ?y3⟩) hHeld ?r3
  · go_simp
  refine' wpAnyH_take (i := 3) (v := .map (some br)) rfl (by kernel_rfl) (by kernel_rfl) (by kernel_rfl) (fun _ _ _ h => h) (Or.inl ⟨by kernel_rfl, fun W hW => ?y4⟩) hHeld ?r4
  · have c : W.cell? ⟨p, 3, none⟩ = some (.map (some br)) := (R1.turn hW (fun q => q)).cell 3 _ rfl
    go_simp
  refine' wpAnyH_take (i := 4) (v := .agg #[.int .u64 a.toNat, .string s]) rfl (by kernel_rfl) (by kernel_rfl) (by kernel_rfl) (fun _ _ _ h => h) (Or.inl ⟨by kernel_rfl, fun W hW => ?y5⟩) hHeld ?r5
  · have c : W.cell? ⟨g, 0, none⟩ = some (.int .u64 a.toNat) := (B1.turn hW (fun q => q)).cell 0 _ rfl
    have c' : W.cell? ⟨g, 1, none⟩ = some (.string s) := (B1.turn hW (fun q => q)).cell 1 _ rfl
    go_simp
  refine' wpAnyH_take (i := 5) (v := .tuple #[.agg #[], .bool true]) rfl (by kernel_rfl) (by kernel_rfl) (by kernel_rfl) (fun _ _ _ h => h) (Or.inl ⟨by kernel_rfl, fun W hW => ?y6⟩) hHeld ?r6
  · have c := hk W (ownsMap_turn o1 hW (fun q => q))
    go_simp
  refine' wpAnyH_take (i := 6) (v := .tuple #[.agg #[], .bool true]) rfl (by kernel_rfl) (by kernel_rfl) (by kernel_rfl) (fun _ _ _ h => h) (Or.inl ⟨by kernel_rfl, fun W hW => ?y7⟩) hHeld ?r7
  · go_simp
  refine' wpAnyH_take (i := 7) (v := .agg #[]) rfl (by kernel_rfl) (by kernel_rfl) (by kernel_rfl) (fun _ _ _ h => h) (Or.inl ⟨by kernel_rfl, fun W hW => ?y8⟩) hHeld ?r8
  · go_simp
  refine' wpAnyH_take (i := 8) (v := .bool true) rfl (by kernel_rfl) (by kernel_rfl) (by kernel_rfl) (fun _ _ _ h => h) (Or.inl ⟨by kernel_rfl, fun W hW => ?y9⟩) hHeld ?r9
  · go_simp
  refine wpAnyH_ready (rs := [9]) (by kernel_rfl) (by simp) ?_
  refine AllReadyH.cons rfl (fun K hK => ?_) AllReadyH.nil
  go_simp
  refine hK.out _ _ ((Turn.refl no wr).alloc _).drew (fun hHeld => ?_)
  clear hK
  refine wpAnyH_ready (rs := [10]) (by kernel_rfl) (by simp) ?_
  refine AllReadyH.cons rfl (fun K hK => ?_) AllReadyH.nil
  go_simp
  refine hK.out _ _ hHeld (fun hHeld => ?_)
  clear hK
  refine wpAnyH_ready (rs := [11]) (by kernel_rfl) (by simp) ?_
  refine AllReadyH.cons rfl (fun K hK => ?_) AllReadyH.nil
  go_simp
  refine hK.out _ _ hHeld (fun hHeld => ?_)
  clear hK
  refine wpAnyH_done (by kernel_rfl) ?_ _
  refine NoPanic.normal ?_
  have R2 := R1.turn hHeld (fun q => q)
  have o3 := ownsMap_turn o1 hHeld (fun q => q)
  have o4 := ownsMap_turn o2 hHeld (fun q => q)
  have T3 := T2.then_no hHeld
  generalize (wr.alloc (.cells #[] 127)).drew = w2 at *
  go_wp2_with fail
  refine leaves_cons (f := 50) (args := #[.pointer (some ⟨p, 1, none⟩)]) (by simp) (by simp [go_sem]) ?_
  refine (unlock_deferred muLib ⟨p, 1, none⟩ .returning _ (R2.cell 1 _ rfl) (R2.frozen 1)).mono ?_
  rintro e u' w'' ⟨rfl, rfl, rfl⟩
  exact ⟨_, results_none rfl _ _ _, rfl, Reg.free R2 o3 o4 hap, T3.setCell (fun _ => rfl) _⟩

set_option maxRecDepth 100000 in
set_option maxHeartbeats 4000000 in
theorem note_new (h : Reg w p br bt n D1 D2) (a : UInt64) (s : ByteArray) (hs : s.size ≤ maxLen) (hno : has D1 (recKey Tryz.prog a s) = false) (hn : n < maxLen) (v : Value) (xs : List Value)
    (hv : D2.atKey (adKey a) (.held (.slice none 0 0)) = .held v) (hown : Own w 9 v xs) (hb : (xs.length + 1) * 16 ≤ 140737488355328) : Calls Tryz.prog 85 #[.pointer (some ⟨p, 0, none⟩), recV a s] w fun e w' =>
    e = .returned (.tuple #[]) ∧ ∃ v', Own w' 9 v' (xs ++ [.string s]) ∧ (v'.ownBlock = v.ownBlock ∨ ∃ g, v'.ownBlock = some g ∧ w.heap.size < g) ∧ Reg w' p br bt (n + 1) (D1.put (recKey Tryz.prog a s) (.agg [])) (D2.put (adKey a) (.held v')) ∧
      Turn (fun k => k = p ∨ k = br ∨ k = bt ∨ v.ownBlock = some k) w w' := by
  have T0 : Turn no w (w.alloc (.cells #[.int .u64 a.toNat, .string s] 182)) := (Turn.refl no w).alloc _
  have h0 := h.turn T0 (fun q => q) (fun q => q) (fun q => q)
  have B0 := Row.new w #[.int .u64 a.toNat, .string s] 182
  have hbp : w.heap.size ≠ p := fun q => by have := Row.lt h.row; omega
  have hl := lock_free muLib ⟨p, 1, none⟩ _ h0.c1 h0.f1
  have R1 := h0.held
  have T1 := held_turn (w.alloc (.cells #[.int .u64 a.toNat, .string s] 182)) p
  have B1 := B0.turn T1 (fun q => hbp q)
  have n1 := h.ne1
  have n2 := h.ne2
  have o1 := ownsMap_turn h0.recs T1 (fun q => n1 q)
  have o2 := ownsMap_turn h0.texts T1 (fun q => n2 q)
  have T2 : Turn (fun k => k = p) w ((w.alloc (.cells #[.int .u64 a.toNat, .string s] 182)).setCell ⟨p, 1, none⟩ (.int .i32 1)) := (T0.of_no).trans T1 (fun _ _ q => q)
  have hap := h.apart
  have hk := fun W (hW : W.ownsMap Tryz.prog 182 unitElem br n D1) => look86 W hW a s hs
  rw [hno] at hk
  have hvp : ∀ k, v.ownBlock = some k → k ≠ p ∧ k ≠ br ∧ k ≠ bt ∧ k < w.heap.size := fun k hkk => by
    rcases hown.shape with ⟨rfl, _⟩ | ⟨g, cap, cur, rfl, hg, _⟩
    · cases hkk
    · cases hkk
      refine ⟨?_, ?_, ?_, lt_of_obj hg⟩
      · rintro rfl; rw [h.row] at hg; cases hg
      · rintro rfl; obtain ⟨es, clock, hb, _⟩ := h.recs; rw [hb] at hg; cases hg
      · rintro rfl; obtain ⟨es, clock, hb, _⟩ := h.texts; rw [hb] at hg; cases hg
  have hw1 := hown.turn T2 (fun k hkk => (hvp k hkk).1)
  have hsz := T2.size
  have hbr : br < w.heap.size := h.recs.lt
  have hbt : bt < w.heap.size := h.texts.lt
  have hpg : ∃ d, w.heap.size = p + 1 + d := ⟨w.heap.size - (p + 1), by have := Row.lt h.row; omega⟩
  clear h h0 T0 T1 B0 hown
  unfold recV at *
  go_enter_defers Tryz.func85, Tryz.ntmps85
  go_wp2_with fail
  refine hl.mono ?_
  rintro e w' ⟨rfl, rfl⟩
  go_wp2_with fail
  generalize (w.alloc (.cells #[.int .u64 a.toNat, .string s] 182)).setCell ⟨p, 1, none⟩ (.int .i32 1) = wr at *
  have hg0 : w.heap.size < wr.heap.size := B1.lt
  generalize hge : w.heap.size = g at *
  refine wp_region_noPanic ?_
  refine wp_region_held_drew (S := fun W => Turn no wr W) (by kernel_rfl) (Turn.refl no wr).drew (fun hHeld => ?_)
  refine' wpAnyH_take (i := 0) (v := .pointer (some ⟨p, 0, none⟩)) rfl (by kernel_rfl) (by kernel_rfl) (by kernel_rfl) (fun _ _ _ h => h) (Or.inl ⟨by kernel_rfl, fun W hW => ?y10⟩) hHeld ?r10
  · go_simp
  refine' wpAnyH_take (i := 1) (v := .pointer (some ⟨p, 0, none⟩)) rfl (by kernel_rfl) (by kernel_rfl) (by kernel_rfl) (fun _ _ _ h => h) (Or.inl ⟨by kernel_rfl, fun W hW => ?y11⟩) hHeld ?r11
  · go_simp
  refine' wpAnyH_take (i := 2) (v := .pointer (some ⟨p, 3, none⟩)) rfl (by kernel_rfl) (by kernel_rfl) (by kernel_rfl) (fun _ _ _ h => h) (Or.inl ⟨by kernel_rfl, fun W hW => ?y12⟩) hHeld ?r12
  · go_simp
  refine' wpAnyH_take (i := 3) (v := .map (some br)) rfl (by kernel_rfl) (by kernel_rfl) (by kernel_rfl) (fun _ _ _ h => h) (Or.inl ⟨by kernel_rfl, fun W hW => ?y13⟩) hHeld ?r13
  · have c : W.cell? ⟨p, 3, none⟩ = some (.map (some br)) := (R1.turn hW (fun q => q)).cell 3 _ rfl
    go_simp
  refine' wpAnyH_take (i := 4) (v := .agg #[.int .u64 a.toNat, .string s]) rfl (by kernel_rfl) (by kernel_rfl) (by kernel_rfl) (fun _ _ _ h => h) (Or.inl ⟨by kernel_rfl, fun W hW => ?y14⟩) hHeld ?r14
  · have c : W.cell? ⟨g, 0, none⟩ = some (.int .u64 a.toNat) := (B1.turn hW (fun q => q)).cell 0 _ rfl
    have c' : W.cell? ⟨g, 1, none⟩ = some (.string s) := (B1.turn hW (fun q => q)).cell 1 _ rfl
    go_simp
  refine' wpAnyH_take (i := 5) (v := .tuple #[.agg #[], .bool false]) rfl (by kernel_rfl) (by kernel_rfl) (by kernel_rfl) (fun _ _ _ h => h) (Or.inl ⟨by kernel_rfl, fun W hW => ?y15⟩) hHeld ?r15
  · have c := hk W (ownsMap_turn o1 hW (fun q => q))
    go_simp
  refine' wpAnyH_take (i := 6) (v := .tuple #[.agg #[], .bool false]) rfl (by kernel_rfl) (by kernel_rfl) (by kernel_rfl) (fun _ _ _ h => h) (Or.inl ⟨by kernel_rfl, fun W hW => ?y16⟩) hHeld ?r16
  · go_simp
  refine' wpAnyH_take (i := 7) (v := .agg #[]) rfl (by kernel_rfl) (by kernel_rfl) (by kernel_rfl) (fun _ _ _ h => h) (Or.inl ⟨by kernel_rfl, fun W hW => ?y17⟩) hHeld ?r17
  · go_simp
  refine' wpAnyH_take (i := 8) (v := .bool false) rfl (by kernel_rfl) (by kernel_rfl) (by kernel_rfl) (fun _ _ _ h => h) (Or.inl ⟨by kernel_rfl, fun W hW => ?y18⟩) hHeld ?r18
  · go_simp
  refine wpAnyH_ready (rs := [9]) (by kernel_rfl) (by simp) ?_
  refine AllReadyH.cons rfl (fun K hK => ?_) AllReadyH.nil
  go_simp
  refine hK.out _ _ ((Turn.refl no wr).alloc _).drew (fun hHeld => ?_)
  clear hK
  refine wpAnyH_ready (rs := [10]) (by kernel_rfl) (by simp) ?_
  refine AllReadyH.cons rfl (fun K hK => ?_) AllReadyH.nil
  go_simp
  refine hK.out _ _ hHeld (fun hHeld => ?_)
  clear hK
  refine wpAnyH_ready (rs := [11]) (by kernel_rfl) (by simp) ?_
  refine AllReadyH.cons rfl (fun K hK => ?_) AllReadyH.nil
  go_simp
  refine hK.out _ _ hHeld (fun hHeld => ?_)
  clear hK
  refine wpAnyH_done (by kernel_rfl) ?_ _
  refine NoPanic.normal ?_
  have R2 := R1.turn hHeld (fun q => q)
  have B2 := B1.turn hHeld (fun q => q)
  have o3 := ownsMap_turn o1 hHeld (fun q => q)
  have o4 := ownsMap_turn o2 hHeld (fun q => q)
  have hw2 := hw1.turn_no hHeld
  have T3 := T2.then_no hHeld
  have hg2 := hHeld.size
  generalize (wr.alloc (.cells #[] 127)).drew = w2 at *
  go_wp2_with fail
  -- the record is laid
  obtain ⟨w3, hst3, o5, mt3⟩ := (o3.kept (w' := w2.drew) (row := none) ⟨rfl, rfl, rfl, Nat.le_refl _, fun _ _ _ => rfl⟩ (by simp)).store law86 Tryz.underlying125 hn (recKey_of a s hs) (val := .agg #[]) (d := .agg []) (ps := []) unitElem_mk
  unfold recV at hst3
  have t3 : Turn (fun k => k = br) w2 w3 := ((Turn.refl no w2).drew.of_no).trans (mapTurn mt3) (fun _ _ q => q)
  refine wp_region_noPanic ?_
  refine wp_region_held_drew (S := fun W => Turn (fun k => k = br) w2 W) (by kernel_rfl) (Turn.refl _ w2).drew (fun hHeld => ?_)
  refine' wpAnyH_take (i := 0) (v := .pointer (some ⟨p, 0, none⟩)) rfl (by kernel_rfl) (by kernel_rfl) (by kernel_rfl) (fun _ _ _ h => h) (Or.inl ⟨by kernel_rfl, fun W hW => ?y19⟩) hHeld ?r19
  · go_simp
  refine' wpAnyH_take (i := 1) (v := .pointer (some ⟨p, 0, none⟩)) rfl (by kernel_rfl) (by kernel_rfl) (by kernel_rfl) (fun _ _ _ h => h) (Or.inl ⟨by kernel_rfl, fun W hW => ?y20⟩) hHeld ?r20
  · go_simp
  refine' wpAnyH_take (i := 2) (v := .pointer (some ⟨p, 3, none⟩)) rfl (by kernel_rfl) (by kernel_rfl) (by kernel_rfl) (fun _ _ _ h => h) (Or.inl ⟨by kernel_rfl, fun W hW => ?y21⟩) hHeld ?r21
  · go_simp
  refine' wpAnyH_take (i := 3) (v := .map (some br)) rfl (by kernel_rfl) (by kernel_rfl) (by kernel_rfl) (fun _ _ _ h => h) (Or.inl ⟨by kernel_rfl, fun W hW => ?y22⟩) hHeld ?r22
  · have c : W.cell? ⟨p, 3, none⟩ = some (.map (some br)) := (R2.turn hW (fun q => n1 q.symm)).cell 3 _ rfl
    go_simp
  refine' wpAnyH_take (i := 4) (v := .agg #[.int .u64 a.toNat, .string s]) rfl (by kernel_rfl) (by kernel_rfl) (by kernel_rfl) (fun _ _ _ h => h) (Or.inl ⟨by kernel_rfl, fun W hW => ?y23⟩) hHeld ?r23
  · have c : W.cell? ⟨g, 0, none⟩ = some (.int .u64 a.toNat) := (B2.turn hW (fun q => by omega)).cell 0 _ rfl
    have c' : W.cell? ⟨g, 1, none⟩ = some (.string s) := (B2.turn hW (fun q => by omega)).cell 1 _ rfl
    go_simp
  refine' wpAnyH_take (i := 5) (v := .agg #[]) rfl (by kernel_rfl) (by kernel_rfl) (by kernel_rfl) (fun _ _ _ h => h) (Or.inl ⟨by kernel_rfl, fun W hW => ?y24⟩) hHeld ?r24
  · go_simp
  refine wpAnyH_ready (rs := [6]) (by kernel_rfl) (by simp) ?_
  refine AllReadyH.cons rfl (fun K hK => ?_) AllReadyH.nil
  go_simp
  refine hK.out _ _ t3 (fun hHeld => ?_)
  clear hK
  refine wpAnyH_done (by kernel_rfl) ?_ _
  refine NoPanic.normal ?_
  have R3 := R2.turn t3 (fun q => n1 q.symm)
  have B3 := B2.turn t3 (fun q => by omega)
  have o6 := ownsMap_turn o4 t3 (fun q => hap q.symm)
  have hw3 := hw2.turn t3 (fun k hkk => (hvp k hkk).2.1)
  have hg3 := t3.size
  have T4 : Turn (fun k => k = p ∨ k = br ∨ k = bt ∨ v.ownBlock = some k) w w3 := (T3.mono (fun _ _ q => Or.inl q)).trans t3 (fun _ _ q => Or.inr (Or.inl q))
  clear T3 t3 hHeld hst3 mt3 o3 o4 R2 B2 hw2
  -- the text is laid behind the others
  obtain ⟨v0, ps, hlk, hv0⟩ := (o6.drew).lookup law29 Tryz.underlying126 (zero81 _) (zd := .held (.slice none 0 0)) (zp := []) rfl (adKey_of a)
  obtain rfl : v0 = v := by
    rw [hv] at hv0
    exact (by simpa [heldElem] using hv0 : v0 = v ∧ ps = []).1
  obtain ⟨v1, ps1, hlk1, hv1⟩ := ((o6.alloc (.cells #[.string s] 9)).drew).lookup law29 Tryz.underlying126 (zero81 _) (zd := .held (.slice none 0 0)) (zp := []) rfl (adKey_of a)
  obtain rfl : v1 = v0 := by
    rw [hv] at hv1
    exact (by simpa [heldElem] using hv1 : v1 = v0 ∧ ps1 = []).1
  have hw4 : Own (w3.alloc (.cells #[.string s] 9)).drew 9 v1 xs := hw3.turn_no ((Turn.refl no w3).alloc _).drew
  have hsrc : Src Tryz.prog 1 140 (.slice (some ⟨w3.heap.size, 0, none⟩) 1 1) 1 [.string s] (w3.alloc (.cells #[.string s] 9)).drew := Src.ofSlice _ Tryz.underlying140 _ _ _ _ rfl (fun j u hu => by
    have := (Row.new w3 #[.string s] 9).drew.cell j u (by simpa using hu)
    simpa [Addr.add_lit] using this) (by intro u hu; simp at hu; subst hu; rfl)
  obtain ⟨v', w5, hap5, ho5, hg5, _⟩ := run_append_src (P := Tryz.prog) (t := 140) (tx := 140) Tryz.underlying140 info9 rfl 140 (w3.alloc (.cells #[.string s] 9)).drew v1 xs hw4 (.slice (some ⟨w3.heap.size, 0, none⟩) 1 1) 1 [.string s] hsrc hb (by simp only [maxLen]; omega)
  have t5 : Turn (fun k => v1.ownBlock = some k) w3 w5 := (((Turn.refl no w3).alloc _).drew.of_no).trans hg5.turn (fun _ _ q => q)
  have o7 := ownsMap_turn o6 t5 (fun q => (hvp _ q).2.2.1 rfl)
  obtain ⟨w6, hst6, o8, mt6⟩ := o7.store law29 Tryz.underlying126 hn (adKey_of a) (val := v') (d := .held v') (ps := []) rfl
  have t6 : Turn (fun k => k = bt ∨ v1.ownBlock = some k) w3 w6 := (t5.mono (fun _ _ q => Or.inr q)).trans (mapTurn mt6) (fun _ _ q => Or.inl q)
  have S5 : Turn (fun k => k = bt ∨ v1.ownBlock = some k) w3 w5 := t5.mono (fun _ _ q => Or.inr q)
  have hpt : ∀ k, k = p ∨ k = g → ¬ (k = bt ∨ v1.ownBlock = some k) := fun k hk q => by
    rcases hk with rfl | rfl
    · rcases q with q | q
      · exact n2 q.symm
      · exact (hvp _ q).1 rfl
    · rcases q with q | q
      · omega
      · have := (hvp _ q).2.2.2; omega
  have R6 := R3.turn t6 (hpt p (Or.inl rfl))
  have o9 := (ownsMap_turn o5 t6 (fun q => by
    rcases q with q | q
    · exact hap q
    · exact (hvp _ q).2.1 rfl))
  have hv'b : v'.ownBlock = v1.ownBlock ∨ ∃ k, v'.ownBlock = some k ∧ g < k := by
    rcases hg5.blk with q | ⟨k, q, h1, _⟩
    · exact Or.inl q
    · exact Or.inr ⟨k, q, by simp at h1; omega⟩
  have ho6 : Own w6 9 v' (xs ++ [.string s]) := ho5.turn (mapTurn mt6) (fun k hkk q => by
    rcases hv'b with e | ⟨j, e, hj⟩
    · exact (hvp k (e ▸ hkk)).2.2.1 q
    · rw [e] at hkk; cases hkk; omega)
  have hEnd : ∃ v', Own (w6.setCell ⟨p, 1, none⟩ (.int .i32 0)) 9 v' (xs ++ [.string s]) ∧ (v'.ownBlock = v1.ownBlock ∨ ∃ k, v'.ownBlock = some k ∧ w.heap.size < k) ∧ Reg (w6.setCell ⟨p, 1, none⟩ (.int .i32 0)) p br bt (n + 1) (D1.put (recKey Tryz.prog a s) (.agg [])) (D2.put (adKey a) (.held v')) ∧
      Turn (fun k => k = p ∨ k = br ∨ k = bt ∨ v1.ownBlock = some k) w (w6.setCell ⟨p, 1, none⟩ (.int .i32 0)) := by
    refine ⟨v', ho6.turn ((Turn.refl (fun k => k = p) w6).setCell (p := ⟨p, 1, none⟩) (fun _ => rfl) _) (fun k hkk q => ?_), hge ▸ hv'b, Reg.free R6 o9 o8 hap, ((T4.trans t6 (fun _ _ q => Or.inr (Or.inr q)))).setCell (fun _ => Or.inl rfl) _⟩
    rcases hv'b with e | ⟨j, e, hj⟩
    · exact (hvp k (e ▸ hkk)).1 q
    · rw [e] at hkk; cases hkk; obtain ⟨d, hd⟩ := hpg; omega
  clear T4 hg5 ho5 ho6 mt6 t5 o8 o9 o7 hv0 hv1
  go_wp2_with fail
  refine wp_region_noPanic ?_
  refine wp_region_held_drew (S := fun W => Turn (fun k => k = bt ∨ v1.ownBlock = some k) w3 W) (by kernel_rfl) (Turn.refl _ w3).drew (fun hHeld => ?_)
  refine' wpAnyH_take (i := 0) (v := .pointer (some ⟨p, 0, none⟩)) rfl (by kernel_rfl) (by kernel_rfl) (by kernel_rfl) (fun _ _ _ h => h) (Or.inl ⟨by kernel_rfl, fun W hW => ?y25⟩) hHeld ?r25
  · go_simp
  refine' wpAnyH_take (i := 1) (v := .pointer (some ⟨p, 0, none⟩)) rfl (by kernel_rfl) (by kernel_rfl) (by kernel_rfl) (fun _ _ _ h => h) (Or.inl ⟨by kernel_rfl, fun W hW => ?y26⟩) hHeld ?r26
  · go_simp
  refine' wpAnyH_take (i := 2) (v := .pointer (some ⟨p, 4, none⟩)) rfl (by kernel_rfl) (by kernel_rfl) (by kernel_rfl) (fun _ _ _ h => h) (Or.inl ⟨by kernel_rfl, fun W hW => ?y27⟩) hHeld ?r27
  · go_simp
  refine' wpAnyH_take (i := 3) (v := .map (some bt)) rfl (by kernel_rfl) (by kernel_rfl) (by kernel_rfl) (fun _ _ _ h => h) (Or.inl ⟨by kernel_rfl, fun W hW => ?y28⟩) hHeld ?r28
  · have c : W.cell? ⟨p, 4, none⟩ = some (.map (some bt)) := (R3.turn hW (hpt p (Or.inl rfl))).cell 4 _ rfl
    go_simp
  refine' wpAnyH_take (i := 4) (v := .pointer (some ⟨g, 0, none⟩)) rfl (by kernel_rfl) (by kernel_rfl) (by kernel_rfl) (fun _ _ _ h => h) (Or.inl ⟨by kernel_rfl, fun W hW => ?y29⟩) hHeld ?r29
  · go_simp
  refine' wpAnyH_take (i := 5) (v := .int .u64 a.toNat) rfl (by kernel_rfl) (by kernel_rfl) (by kernel_rfl) (fun _ _ _ h => h) (Or.inl ⟨by kernel_rfl, fun W hW => ?y30⟩) hHeld ?r30
  · have c : W.cell? ⟨g, 0, none⟩ = some (.int .u64 a.toNat) := (B3.turn hW (hpt g (Or.inr rfl))).cell 0 _ rfl
    go_simp
  refine' wpAnyH_take (i := 6) (v := .pointer (some ⟨p, 0, none⟩)) rfl (by kernel_rfl) (by kernel_rfl) (by kernel_rfl) (fun _ _ _ h => h) (Or.inl ⟨by kernel_rfl, fun W hW => ?y31⟩) hHeld ?r31
  · go_simp
  refine' wpAnyH_take (i := 7) (v := .pointer (some ⟨p, 0, none⟩)) rfl (by kernel_rfl) (by kernel_rfl) (by kernel_rfl) (fun _ _ _ h => h) (Or.inl ⟨by kernel_rfl, fun W hW => ?y32⟩) hHeld ?r32
  · go_simp
  refine' wpAnyH_take (i := 8) (v := .pointer (some ⟨p, 4, none⟩)) rfl (by kernel_rfl) (by kernel_rfl) (by kernel_rfl) (fun _ _ _ h => h) (Or.inl ⟨by kernel_rfl, fun W hW => ?y33⟩) hHeld ?r33
  · go_simp
  refine' wpAnyH_take (i := 9) (v := .map (some bt)) rfl (by kernel_rfl) (by kernel_rfl) (by kernel_rfl) (fun _ _ _ h => h) (Or.inl ⟨by kernel_rfl, fun W hW => ?y34⟩) hHeld ?r34
  · have c : W.cell? ⟨p, 4, none⟩ = some (.map (some bt)) := (R3.turn hW (hpt p (Or.inl rfl))).cell 4 _ rfl
    go_simp
  refine' wpAnyH_take (i := 10) (v := .pointer (some ⟨g, 0, none⟩)) rfl (by kernel_rfl) (by kernel_rfl) (by kernel_rfl) (fun _ _ _ h => h) (Or.inl ⟨by kernel_rfl, fun W hW => ?y35⟩) hHeld ?r35
  · go_simp
  refine' wpAnyH_take (i := 11) (v := .int .u64 a.toNat) rfl (by kernel_rfl) (by kernel_rfl) (by kernel_rfl) (fun _ _ _ h => h) (Or.inl ⟨by kernel_rfl, fun W hW => ?y36⟩) hHeld ?r36
  · have c : W.cell? ⟨g, 0, none⟩ = some (.int .u64 a.toNat) := (B3.turn hW (hpt g (Or.inr rfl))).cell 0 _ rfl
    go_simp
  refine' wpAnyH_take (i := 13) (v := .pointer (some ⟨g, 1, none⟩)) rfl (by kernel_rfl) (by kernel_rfl) (by kernel_rfl) (fun _ _ _ h => h) (Or.inl ⟨by kernel_rfl, fun W hW => ?y37⟩) hHeld ?r37
  · go_simp
  refine' wpAnyH_take (i := 14) (v := .string s) rfl (by kernel_rfl) (by kernel_rfl) (by kernel_rfl) (fun _ _ _ h => h) (Or.inl ⟨by kernel_rfl, fun W hW => ?y38⟩) hHeld ?r38
  · have c : W.cell? ⟨g, 1, none⟩ = some (.string s) := (B3.turn hW (hpt g (Or.inr rfl))).cell 1 _ rfl
    go_simp
  refine wpAnyH_ready (rs := [12, 15]) (by kernel_rfl) (by simp) ?_
  refine AllReadyH.cons rfl (fun K hK => ?_) (AllReadyH.cons rfl (fun K hK => ?_) AllReadyH.nil)
  · go_simp
    refine hK.out _ _ (Turn.refl _ w3).drew (fun hHeld => ?_)
    clear hK
    refine wpAnyH_ready (rs := [15]) (by kernel_rfl) (by simp) ?_
    refine AllReadyH.cons rfl (fun K hK => ?_) AllReadyH.nil
    go_simp
    refine hK.out _ _ ((Turn.refl _ w3).alloc _).drew (fun hHeld => ?_)
    clear hK
    refine wpAnyH_ready (rs := [16]) (by kernel_rfl) (by simp) ?_
    refine AllReadyH.cons rfl (fun K hK => ?_) AllReadyH.nil
    rw [if_pos (by rfl)]
    refine wp_append_run _ _ rfl _ _ rfl rfl hap5 ?_
    refine hK.out _ _ S5 (fun hHeld => ?_)
    clear hK
    refine wpAnyH_ready (rs := [17]) (by kernel_rfl) (by simp) ?_
    refine AllReadyH.cons rfl (fun K hK => ?_) AllReadyH.nil
    go_simp
    refine hK.out _ _ t6 (fun hHeld => ?_)
    clear hK
    refine wpAnyH_done (by kernel_rfl) ?_ _
    refine NoPanic.normal ?_
    go_wp2_with fail
    refine leaves_cons (f := 50) (args := #[.pointer (some ⟨p, 1, none⟩)]) (by simp) (by simp [go_sem]) ?_
    refine (unlock_deferred muLib ⟨p, 1, none⟩ .returning _ (R6.cell 1 _ rfl) (R6.frozen 1)).mono ?_
    rintro e u' w'' ⟨rfl, rfl, rfl⟩
    exact ⟨_, results_none rfl _ _ _, rfl, hEnd⟩
  · go_simp
    refine hK.out _ _ ((Turn.refl _ w3).alloc _).drew (fun hHeld => ?_)
    clear hK
    refine wpAnyH_ready (rs := [12]) (by kernel_rfl) (by simp) ?_
    refine AllReadyH.cons rfl (fun K hK => ?_) AllReadyH.nil
    go_simp
    refine hK.out _ _ ((Turn.refl _ w3).alloc _).drew (fun hHeld => ?_)
    clear hK
    refine wpAnyH_ready (rs := [16]) (by kernel_rfl) (by simp) ?_
    refine AllReadyH.cons rfl (fun K hK => ?_) AllReadyH.nil
    rw [if_pos (by rfl)]
    refine wp_append_run _ _ rfl _ _ rfl rfl hap5 ?_
    refine hK.out _ _ S5 (fun hHeld => ?_)
    clear hK
    refine wpAnyH_ready (rs := [17]) (by kernel_rfl) (by simp) ?_
    refine AllReadyH.cons rfl (fun K hK => ?_) AllReadyH.nil
    go_simp
    refine hK.out _ _ t6 (fun hHeld => ?_)
    clear hK
    refine wpAnyH_done (by kernel_rfl) ?_ _
    refine NoPanic.normal ?_
    go_wp2_with fail
    refine leaves_cons (f := 50) (args := #[.pointer (some ⟨p, 1, none⟩)]) (by simp) (by simp [go_sem]) ?_
    refine (unlock_deferred muLib ⟨p, 1, none⟩ .returning _ (R6.cell 1 _ rfl) (R6.frozen 1)).mono ?_
    rintro e u' w'' ⟨rfl, rfl, rfl⟩
    exact ⟨_, results_none rfl _ _ _, rfl, hEnd⟩
end
end Go.Proofs.YtgbcdjjnpadddaaGreatDoor


