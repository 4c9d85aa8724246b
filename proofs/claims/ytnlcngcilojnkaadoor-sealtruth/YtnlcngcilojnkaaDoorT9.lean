/- all: what is shown of every record. -/
import Derived.Test.YtnlcngcilojnkaaDoorT8
namespace Go.Proofs.YtnlcngcilojnkaaDoor
open Go.RowKit Go.Maps Go.MuLone
set_option linter.unusedVariables false
section
variable {base sw : Nat} {w : World} {d : Nat → Sd} {vb : Value} {B : List Wr}
theorem xor_byte (b : UInt8) : ∃ c : UInt8, bits .xor .u8 (b.toNat : Int) 1 = (c.toNat : Int) := by
  have h : ∃ m : Nat, m < 256 ∧ bits .xor .u8 (b.toNat : Int) 1 = (m : Int) := by
    have e : ∃ z : Int, bits .xor .u8 (b.toNat : Int) 1 = IntKind.u8.wrap z := ⟨_, rfl⟩
    obtain ⟨z, e⟩ := e
    rw [e, IntKind.wrap_u8]
    exact ⟨(z % 256).toNat, by omega, by omega⟩
  obtain ⟨m, hm, e⟩ := h
  exact ⟨UInt8.ofNat m, by rw [e]; simp; omega⟩
theorem add_one (a : UInt64) : ((a.toNat : Int) + 1) % 18446744073709551616 = ((a + 1).toNat : Int) := by
  have : (a + 1).toNat = (a.toNat + 1) % 18446744073709551616 := UInt64.toNat_add a 1
  rw [this]
  omega
theorem wpList_convert_run {P : Program} {ops : Array Oper} {rest : List Oper} {o : Oper} {a : Act} {w : World} {Q : Exit → Act → World → Prop} (hgd : o.guard = none) (x : Operand) {t1 t2 : TypeId} (ho : o.op = .convert t1 t2 x) (v : Value) (hx : a.eval x = v) {v' : Value} {w' : World}
    (hr : (convert t1 t2 v).run P w = .ok v' w') (h : wpList P ops Q rest (a.put o.dst v') w') : wpList P ops Q (o :: rest) a w :=
  wpList_plain hgd fun K hK => by
    unfold Oper.wp execOp
    simp only [ho, Sem.run_bind, Result.andThen_ok, hx, hr, Sem.run_pure]
    exact hK _ _ h
theorem wpList_append_run {P : Program} {ops : Array Oper} {rest : List Oper} {o : Oper} {a : Act} {w : World} {Q : Exit → Act → World → Prop} (hgd : o.guard = none) (s x : Operand) {t tx : TypeId}
    (ho : o.op = .call { callee := .builtin .append, args := #[s, x], argTypes := #[t, tx] }) (v xv : Value) (hs : a.eval s = v) (hx : a.eval x = xv) {v' : Value} {w' : World}
    (hr : (Builtin.append_ #[t, tx] o.type #[v, xv]).run P w = .ok v' w') (h : wpList P ops Q rest (a.put o.dst v') w') : wpList P ops Q (o :: rest) a w :=
  wpList_plain hgd fun K hK => wp_append_run s x ho v xv hs hx hr (hK _ _ h)

theorem wpList_load_mid_w {P : Program} {ops : Array Oper} {rest : List Oper} {op : Oper} {a : Act} {w : World} {Q : Exit → Act → World → Prop} (hw : Region.wanted op (yielded ops a.tmps) = true) (ty : TypeId) (x : Operand) (ho : op.op = .load ty x)
    (b o : Nat) (hx : a.eval x = .pointer (some ⟨b, o, none⟩)) (cs : List Value) (d : TypeDesc) (hc : w.rangeAt b o cs) (hu : P.underlying ty = some d) (hd : d.isRow = true) (hi : (P.info? ty).map (·.size) = some cs.length)
    (h : wpList P ops Q rest (a.put op.dst (.agg cs.toArray)) w) : wpList P ops Q (op :: rest) a w :=
  wpList_step fun K hK => by
    rw [if_pos hw]
    exact wp_load_mid ty x ho b o hx cs d hc hu hd hi (hK _ _ h)

/-- What lies beside a sight while a record is shown. -/
structure Loc (base : Nat) (w W : World) (sw : Nat) (d : Nat → Sd) (vb : Value) (B : List Wr) (old gx gs : Nat) (WC XL : List Value) (m mo : Value) (s : List UInt8) : Prop where
  sight : Sight base W sw d vb B
  rx : Row W gx WC.toArray 79
  rs : Row W gs XL.toArray 33
  bm : Bs W m s
  bo : Bs W mo (s ++ [0])
  turn : Turn (fun g => base ≤ g) w W
  fx : old ≤ gx
  fs : old ≤ gs
  fm : ∀ g, m.ownBlock = some g → old ≤ g
  fo : ∀ g, mo.ownBlock = some g → old ≤ g
  lt : ∀ k, k < 2 → (d k).p < old
theorem Loc.step {base : Nat} {w W W' : World} {sw : Nat} {d : Nat → Sd} {vb : Value} {B : List Wr} {old gx gs : Nat} {WC XL : List Value} {m mo : Value} {s : List UInt8} (h : Loc base w W sw d vb B old gx gs WC XL m mo s) {k : Nat} (hk : k < 2) (S : Sight base W' sw d vb B) (t : Turn (fun g => g = (d k).p) W W') : Loc base w W' sw d vb B old gx gs WC XL m mo s := by
  have hlt := h.lt k hk
  refine ⟨S, h.rx.turn t (fun q => by have := h.fx; omega), h.rs.turn t (fun q => by have := h.fs; omega), h.bm.turn t (fun g hg q => by have := h.fm g hg; omega), h.bo.turn t (fun g hg q => by have := h.fo g hg; omega), h.turn.trans t (fun g _ q => by subst q; exact h.sight.fresh k _ hk (.inl (.inl rfl))), h.fx, h.fs, h.fm, h.fo, h.lt⟩
theorem size79 : (Tryd.prog.info? 79).map (·.size) = some 19 := by kernel_rfl

set_option maxRecDepth 100000 in
set_option maxHeartbeats 8000000 in
theorem all21 (h : Sight base w sw d vb B) (hl1 : Laid1 w) (h2 : 2 ≤ base) : Calls Tryd.prog 21 #[.pointer (some ⟨sw, 0, none⟩)] w fun e w' => e = .returned (.bool true) ∧ Sight base w' sw d vb B ∧ Turn (fun g => base ≤ g) w w' := by
  obtain ⟨va, vc, hvb, _, hle, hcp, _⟩ := h.book.form
  obtain ⟨n, hn⟩ : ∃ n, Shut (B.length = n) := ⟨_, rfl⟩
  rw [show B.length = n from hn.out] at hvb hcp
  have hvbS : Shut (vb = .slice va n vc) := hvb
  clear hvb
  have hle' : n ≤ 9223372036854775807 := by rw [← hn.out]; simpa [maxLen] using hle
  have hl1' : Shut (∀ W, Turn (fun g => base ≤ g) w W → Laid1 W) := fun W t => hl1.turn t (by omega)
  go_enter Tryd.func21, Tryd.ntmps21
  go_wp2_with fail
  go_loopw [3] (fun c wr => ∃ i : Nat, i ≤ n ∧ c = .int .i64 i ∧ Sight base wr sw d vb B ∧ Turn (fun g => base ≤ g) w wr) (fun c _ => n - (intOf c).toNat)
  case atStart => exact ⟨0, by omega, rfl, h, Turn.refl _ _⟩
  case round =>
    clear h hle hl1
    obtain ⟨i, hi, rfl, S, T⟩ := hrel
    have c6 := S.c6
    rw [show vb = .slice va n vc from hvbS.out] at c6
    by_cases hlt : i < n
    · have hlt' : (i : Int) < (n : Int) := by omega
      obtain ⟨⟨k, a, s⟩, hx⟩ : ∃ x, B[i]? = some x := ⟨B[i]'(by rw [hn.out]; exact hlt), List.getElem?_eq_getElem _⟩
      obtain ⟨hkl, hsl⟩ := S.who _ (List.mem_of_getElem? hx)
      simp only at hkl hsl
      obtain ⟨g, cap, e, _, hr⟩ := S.seal hx
      obtain ⟨rfl, rfl⟩ : va = some ⟨g, 0, none⟩ ∧ vc = cap := by
        rw [show vb = .slice va n vc from hvbS.out, show B.length = n from hn.out] at e
        cases e
        exact ⟨rfl, rfl⟩
      clear e
      -- the record's cells
      have hWl := wrC_len (k, a, s)
      have hW1 : (Tryd.prog.info? 79).map (·.size) = some (wrC (k, a, s)).length := by rw [hWl]; exact size79
      have hW2 : (Tryd.prog.info? 79).map (·.size) = some (wrC (k, a, s)).toArray.size := by rw [List.size_toArray, hWl]; exact size79
      have hWo : (wrC (k, a, s)).toArray.all (·.oneCell') = true := by
        simp [wrC, bv, Value.oneCell']
      have hcw : Shut (∀ W g, Row W g (wrC (k, a, s)).toArray 79 → W.cell? ⟨g, 0, none⟩ = some (.int .i64 k) ∧ W.cell? ⟨g, 1, none⟩ = some (.int .u64 a.toNat) ∧ W.cell? ⟨g, 2, none⟩ = some (.string ⟨s.toArray⟩) ∧ W.rangeAt g 3 ((sealB a s).map bv)) := fun W g r =>
        ⟨r.cell 0 _ rfl, r.cell 1 _ rfl, r.cell 2 _ rfl, fun j u hu => by
          have := r.cell (3 + j) u (by
            rw [List.getElem?_toArray, wrC, Nat.add_comm 3 j]
            simp only [List.getElem?_cons_succ]
            exact hu)
          exact this⟩
      have hSB := sealB_len a s
      generalize sealB a s = SB at *
      generalize wrC (k, a, s) = WC at *
      obtain ⟨b15, hb15⟩ : ∃ b, SB[15]? = some b := ⟨SB[15]'(by omega), List.getElem?_eq_getElem _⟩
      obtain ⟨cx, hcx⟩ := xor_byte b15
      have hXl : (SB.map bv).length = 16 := by simpa using hSB
      have hX1 : (Tryd.prog.info? 33).map (·.size) = some (SB.map bv).length := by rw [hXl]; exact size33
      have hX2 : (Tryd.prog.info? 33).map (·.size) = some (SB.map bv).toArray.size := by rw [List.size_toArray, hXl]; exact size33
      have hXo : (SB.map bv).toArray.all (·.oneCell') = true := by simp [bv, Value.oneCell']
      have hY : (SB.map bv).toArray.setIfInBounds 15 (.int .u8 cx.toNat) = ((SB.set 15 cx).map bv).toArray := by
        rw [List.setIfInBounds_toArray, List.map_set]
        rfl
      have hYl : (SB.set 15 cx).length = 16 := by simpa using hSB
      have hX15 : (SB.map bv)[15]? = some (.int .u8 b15.toNat) := by simp [hb15, bv]
      generalize hYB : SB.set 15 cx = YB at *
      have hp : ∀ k, k < 2 → (d k).p < wr.heap.size := fun k hk => (S.side k hk).lt (.inl (.inl rfl))
      have hY1 : (Tryd.prog.info? 33).map (·.size) = some (YB.map bv).length := by rw [List.length_map, hYl]; exact size33
      clear hYB hb15
      have hSBs : Shut (SB.length = 16) := hSB
      have hYls : Shut (YB.length = 16) := hYl
      generalize hXLe : SB.map bv = XL at *
      have hXLs : Shut (SB.map bv = XL) := hXLe
      clear hSB hYl hXLe
      go_wp2_with (first
        | (refine wpList_load_mid rfl 79 (.tmp 22) rfl g (i * 19) rfl WC _ hr Tryd.underlying79 rfl hW1 ?_)
        | (refine wpList_store_row rfl 79 (.tmp 4) (.tmp 23) rfl wr.heap.size WC.toArray rfl rfl 79 _ (Row.new wr _ 79) hW2 (by simp [hWl]) hWo ?_
           have RZ : Row (World.setRow (wr.alloc (.cells #[.int .i64 0, .int .u64 0, .string ⟨#[]⟩, .int .u8 0, .int .u8 0, .int .u8 0, .int .u8 0, .int .u8 0, .int .u8 0, .int .u8 0, .int .u8 0, .int .u8 0, .int .u8 0, .int .u8 0, .int .u8 0, .int .u8 0, .int .u8 0, .int .u8 0, .int .u8 0] 79)) wr.heap.size WC.toArray) wr.heap.size WC.toArray 79 := setRow_heap _ _ _ _ _ _ (Row.new wr _ 79)
           have T4 : Turn no wr (World.setRow (wr.alloc (.cells #[.int .i64 0, .int .u64 0, .string ⟨#[]⟩, .int .u8 0, .int .u8 0, .int .u8 0, .int .u8 0, .int .u8 0, .int .u8 0, .int .u8 0, .int .u8 0, .int .u8 0, .int .u8 0, .int .u8 0, .int .u8 0, .int .u8 0, .int .u8 0, .int .u8 0, .int .u8 0] 79)) wr.heap.size WC.toArray) := ((Turn.refl no wr).alloc _).setRow _ _ (fun q => absurd q (Nat.lt_irrefl _))
           generalize World.setRow (wr.alloc (.cells #[.int .i64 0, .int .u64 0, .string ⟨#[]⟩, .int .u8 0, .int .u8 0, .int .u8 0, .int .u8 0, .int .u8 0, .int .u8 0, .int .u8 0, .int .u8 0, .int .u8 0, .int .u8 0, .int .u8 0, .int .u8 0, .int .u8 0, .int .u8 0, .int .u8 0, .int .u8 0] 79)) wr.heap.size WC.toArray = w4 at *
           generalize hgxe : wr.heap.size = gx at *
           have hgxS : Shut (wr.heap.size = gx) := hgxe
           clear hgxe
           have hg4 : gx < w4.heap.size := RZ.lt
           obtain ⟨c0, c1, c2, c3⟩ := hcw.out w4 gx RZ
           clear hr hW1 hW2 hWl hWo)
        | (obtain ⟨cap5, w5, hcv5, T5, s5, bm5⟩ := conv_one w4 s hsl
           refine wpList_convert_run rfl (.tmp 25) rfl _ rfl hcv5 ?_
           have R5 := RZ.turn T5 (fun q => q)
           have hs5 := T5.size
           clear hcv5 s5
           generalize w4.heap.size = g5 at *
           obtain ⟨c0', c1', c2', c3'⟩ := hcw.out w5 gx R5)
        | (obtain ⟨cap6, w6, hcv6, T6, s6, mo, w7, hap7, bo7, T7, fo7⟩ := conv_more w5 s hsl
           refine wpList_convert_run rfl (.tmp 28) rfl _ rfl hcv6 ?_
           have R7 := R5.turn T7 (fun q => q)
           have bm7 := bm5.turn_no T7
           have hg7 := T7.size
           clear hcv6 s6
           generalize w5.heap.size = g6 at *)
        | (at_builtin
           refine wpList_append_run rfl (.tmp 29) (.tmp 30) rfl _ _ rfl rfl hap7 ?_
           obtain ⟨c0'', c1'', c2'', c3''⟩ := hcw.out w7 gx R7
           clear hap7)
        | (refine wpList_load_mid rfl 33 (.tmp 32) rfl gx 3 rfl XL _ c3'' Tryd.underlying33 rfl hX1 ?_)
        | (refine wpList_store_row rfl 33 (.tmp 7) (.tmp 33) rfl w7.heap.size XL.toArray rfl rfl 33 _ (Row.new w7 _ 33) hX2 (by simp [hXl]) hXo ?_
           have RS : Row (World.setRow (w7.alloc (.cells #[.int .u8 0, .int .u8 0, .int .u8 0, .int .u8 0, .int .u8 0, .int .u8 0, .int .u8 0, .int .u8 0, .int .u8 0, .int .u8 0, .int .u8 0, .int .u8 0, .int .u8 0, .int .u8 0, .int .u8 0, .int .u8 0] 33)) w7.heap.size XL.toArray) w7.heap.size XL.toArray 33 := setRow_heap _ _ _ _ _ _ (Row.new w7 _ 33)
           have T8 : Turn no w7 (World.setRow (w7.alloc (.cells #[.int .u8 0, .int .u8 0, .int .u8 0, .int .u8 0, .int .u8 0, .int .u8 0, .int .u8 0, .int .u8 0, .int .u8 0, .int .u8 0, .int .u8 0, .int .u8 0, .int .u8 0, .int .u8 0, .int .u8 0, .int .u8 0] 33)) w7.heap.size XL.toArray) := ((Turn.refl no w7).alloc _).setRow _ _ (fun q => absurd q (Nat.lt_irrefl _))
           generalize World.setRow (w7.alloc (.cells #[.int .u8 0, .int .u8 0, .int .u8 0, .int .u8 0, .int .u8 0, .int .u8 0, .int .u8 0, .int .u8 0, .int .u8 0, .int .u8 0, .int .u8 0, .int .u8 0, .int .u8 0, .int .u8 0, .int .u8 0, .int .u8 0] 33)) w7.heap.size XL.toArray = w8 at *
           have hgs : gx < w7.heap.size := R7.lt
           have bl7 : s ≠ [] → ∀ g, (Value.slice (some ⟨g5, 0, none⟩) s.length cap5).ownBlock = some g → g < w7.heap.size := fun hne g hg => bm7.old hne g hg
           have bl8 : ∀ g, mo.ownBlock = some g → g < w7.heap.size := fun g hg => bo7.old (by simp) g hg
           generalize w7.heap.size = gs at *
           have R8 := R7.turn T8 (fun q => q)
           have d15 : w8.cell? ⟨gs, 15, none⟩ = some (.int .u8 b15.toNat) := RS.cell 15 _ (by simpa using hX15)
           have f15 := RS.frozen 15
           have T9 : Turn (fun q => q = gs) w8 (w8.setCell ⟨gs, 15, none⟩ (.int .u8 cx.toNat)) := (Turn.refl (fun q => q = gs) w8).setCell (p := ⟨gs, 15, none⟩) (fun _ => rfl) _
           have RS9 : Row (w8.setCell ⟨gs, 15, none⟩ (.int .u8 cx.toNat)) gs (YB.map bv).toArray 33 := by
             have := RS.set 15 (.int .u8 cx.toNat)
             rwa [hY] at this
           have R9 := R8.turn T9 (fun q => by omega)
           obtain ⟨e0, e1, e2, e3⟩ := hcw.out _ gx R9
           clear c0 c1 c2 c3 c0' c1' c2' c3' c0'' c1'' c2'' c3'')
        | (refine wpList_load_mid rfl 33 (.tmp 44) rfl gx 3 rfl XL _ e3 Tryd.underlying33 rfl hX1 ?_))
      have T48 : Turn no wr w8 := ((T4.then_no T5).then_no T7).then_no T8
      have TN : Turn no wr (w8.setCell ⟨gs, 15, none⟩ (.int .u8 cx.toNat)) := (T48.of_no.trans T9 (fun _ _ q => q)).mono (S := fun q => q = gs) (fun g hg q => by have : wr.heap.size = gx := hgxS; omega)
      have L9 : Loc base w (w8.setCell ⟨gs, 15, none⟩ (.int .u8 cx.toNat)) sw d vb B gx gx gs WC (YB.map bv) (.slice (some ⟨g5, 0, none⟩) s.length cap5) mo s :=
        ⟨S.turn_no TN, R9, RS9, (bm7.turn_no T8).late T9 (fun hne g hg q => by have := bl7 hne g hg; omega), (bo7.turn_no T8).turn T9 (fun g hg q => by have := bl8 g hg; omega), T.then_no TN, Nat.le_refl _, by omega, fun g hg => by simp [Value.ownBlock] at hg; omega, fun g hg => by have := fo7 g hg; omega, hp⟩
      clear T48 TN T4 T5 T7 T8 T9 R9 R8 R7 R5 RZ RS RS9 bm5 bm7 bo7 bl7 bl8 fo7 e0 e1 e2 e3 d15 f15 hX15 hY hcx hX2 hXo hXl T S hp hgxS T6
      generalize w8.setCell ⟨gs, 15, none⟩ (.int .u8 cx.toNat) = w9 at *
      have hkl' : (k : Int) < 2 := by omega
      obtain ⟨k2, hk2, hsub⟩ : ∃ k2 : Nat, k2 < 2 ∧ (1 : Int) - (k : Int) = (k2 : Int) := ⟨1 - k, by omega, by omega⟩
      have hadd := add_one a
      have hsl2 : (s ++ [0]).length ≤ 1099511627776 := by simp; omega
      have hsl1 : s.length ≤ 1099511627776 := by omega
      have tr := truth36 L9.sight hkl a _ s L9.bm SB hSBs.out (hl1'.out _ L9.turn) h2
      rw [hXLs.out] at tr
      refine tr.mono ?_
      rintro e w10 ⟨rfl, S1, t1⟩
      have L10 := L9.step hkl S1 t1
      obtain ⟨e0, e1, e2, e3⟩ := hcw.out w10 gx L10.rx
      have e4 : w10.rangeAt gs 0 (YB.map bv) := L10.rs.range
      clear tr S1 t1 L9
      go_wp2_with (refine wpList_load_mid_w (by rfl) 33 (.tmp 56) rfl gx 3 rfl XL _ e3 Tryd.underlying33 rfl hX1 ?_)
      have tr := truth36 L10.sight hkl (a + 1) _ s L10.bm SB hSBs.out (hl1'.out _ L10.turn) h2
      rw [hXLs.out] at tr
      refine tr.mono ?_
      rintro e w11 ⟨rfl, S1, t1⟩
      have L11 := L10.step hkl S1 t1
      obtain ⟨e0, e1, e2, e3⟩ := hcw.out w11 gx L11.rx
      have e4 : w11.rangeAt gs 0 (YB.map bv) := L11.rs.range
      clear tr S1 t1 L10
      go_wp2_with (refine wpList_load_mid_w (by rfl) 33 (.tmp 68) rfl gx 3 rfl XL _ e3 Tryd.underlying33 rfl hX1 ?_)
      have tr := truth36 L11.sight hkl a _ (s ++ [0]) L11.bo SB hSBs.out (hl1'.out _ L11.turn) h2
      rw [hXLs.out] at tr
      refine tr.mono ?_
      rintro e w12 ⟨rfl, S1, t1⟩
      have L12 := L11.step hkl S1 t1
      obtain ⟨e0, e1, e2, e3⟩ := hcw.out w12 gx L12.rx
      have e4 : w12.rangeAt gs 0 (YB.map bv) := L12.rs.range
      clear tr S1 t1 L11
      go_wp2_with (refine wpList_load_mid_w (by rfl) 33 (.tmp 81) rfl gx 3 rfl XL _ e3 Tryd.underlying33 rfl hX1 ?_)
      have tr := truth36 L12.sight hk2 a _ s L12.bm SB hSBs.out (hl1'.out _ L12.turn) h2
      rw [hXLs.out] at tr
      refine tr.mono ?_
      rintro e w13 ⟨rfl, S1, t1⟩
      have L13 := L12.step hk2 S1 t1
      obtain ⟨e0, e1, e2, e3⟩ := hcw.out w13 gx L13.rx
      have e4 : w13.rangeAt gs 0 (YB.map bv) := L13.rs.range
      clear tr S1 t1 L12
      go_wp2_with (refine wpList_load_mid_w (by rfl) 33 (.tmp 7) rfl gs 0 rfl (YB.map bv) _ e4 Tryd.underlying33 rfl hY1 ?_)
      have tr := truth36 L13.sight hkl a _ s L13.bm YB hYls.out (hl1'.out _ L13.turn) h2
      refine tr.mono ?_
      rintro e w14 ⟨rfl, S1, t1⟩
      have L14 := L13.step hkl S1 t1
      obtain ⟨e0, e1, e2, e3⟩ := hcw.out w14 gx L14.rx
      have e4 : w14.rangeAt gs 0 (YB.map bv) := L14.rs.range
      clear tr S1 t1 L13
      go_wp2_with fail
      obtain ⟨hc5, hcut⟩ : s.length ≤ cap5 ∧ ∀ W, Bs W (.slice (some ⟨g5, 0, none⟩) s.length cap5) s → ∀ m, m ≤ s.length → Bs W (.slice (some ⟨g5, 0, none⟩) m cap5) (s.take m) := by
        refine ⟨?_, fun W b m hm => ?_⟩
        · rcases L14.bm with ⟨q, _⟩ | ⟨A, C, q, h1, _⟩
          · cases q
          · cases q; exact h1
        · rcases b with ⟨q, _⟩ | ⟨A, C, q, h1, h2, h3⟩
          · cases q
          · cases q
            refine .inr ⟨_, _, by rw [List.length_take, Nat.min_eq_left hm], by rw [List.length_take]; omega, h2, fun j u hu => h3 j u ?_⟩
            rw [List.getElem?_take] at hu
            split at hu
            · exact hu
            · cases hu
      have Lst : ∀ W, Turn (fun g => g = (d k).p) w14 W → Row W gx WC.toArray 79 := fun W t => L14.rx.turn t (fun q => by have := L14.lt k hkl; have := L14.fx; omega)
      have Hx0 : ∀ W, Turn (fun g => g = (d k).p) w14 W → W.cell? ⟨gx, 0, none⟩ = some (.int .i64 k) := fun W t => (hcw.out W gx (Lst W t)).1
      have Hx1 : ∀ W, Turn (fun g => g = (d k).p) w14 W → W.cell? ⟨gx, 1, none⟩ = some (.int .u64 a.toNat) := fun W t => (hcw.out W gx (Lst W t)).2.1
      have Hx3 : ∀ W, Turn (fun g => g = (d k).p) w14 W → W.rangeAt gx 3 XL := fun W t => (hcw.out W gx (Lst W t)).2.2.2
      clear e0 e1 e2 e3 e4
      by_cases hz : s.length = 0
      · have hz1 : ¬ (0 : Int) < (s.length : Int) := by omega
        refine wp_region_held_drew (S := fun W => Turn (fun g => g = (d k).p) w14 W) (by kernel_rfl) (Turn.refl _ w14).drew (fun hHeld => ?_)
        refine' wpAnyH_take (i := 0) (v := .slice (some ⟨g5, 0, none⟩) s.length cap5) rfl (by kernel_rfl) (by kernel_rfl) (by kernel_rfl) (fun _ _ _ h => h) (Or.inl ⟨by kernel_rfl, fun W hW => ?y1⟩) hHeld ?r1
        · go_simp
        refine' wpAnyH_take (i := 1) (v := .int .i64 s.length) rfl (by kernel_rfl) (by kernel_rfl) (by kernel_rfl) (fun _ _ _ h => h) (Or.inl ⟨by kernel_rfl, fun W hW => ?y2⟩) hHeld ?r2
        · go_simp
        refine' wpAnyH_take (i := 2) (v := .bool false) rfl (by kernel_rfl) (by kernel_rfl) (by kernel_rfl) (fun _ _ _ h => h) (Or.inl ⟨by kernel_rfl, fun W hW => ?y3⟩) hHeld ?r3
        · go_simp
        refine' wpAnyH_take (i := 3) (v := .bool false) rfl (by kernel_rfl) (by kernel_rfl) (by kernel_rfl) (fun _ _ _ h => h) (Or.inl ⟨by kernel_rfl, fun W hW => ?y4⟩) hHeld ?r4
        · go_simp
        refine' wpAnyH_take (i := 4) (v := undef) rfl (by kernel_rfl) (by kernel_rfl) (by kernel_rfl) (fun _ _ _ h => h) (Or.inr ⟨by kernel_rfl, rfl⟩) hHeld ?r5
        refine' wpAnyH_take (i := 5) (v := undef) rfl (by kernel_rfl) (by kernel_rfl) (by kernel_rfl) (fun _ _ _ h => h) (Or.inr ⟨by kernel_rfl, rfl⟩) hHeld ?r6
        refine' wpAnyH_take (i := 6) (v := undef) rfl (by kernel_rfl) (by kernel_rfl) (by kernel_rfl) (fun _ _ _ h => h) (Or.inr ⟨by kernel_rfl, rfl⟩) hHeld ?r7
        refine' wpAnyH_take (i := 7) (v := undef) rfl (by kernel_rfl) (by kernel_rfl) (by kernel_rfl) (fun _ _ _ h => h) (Or.inr ⟨by kernel_rfl, rfl⟩) hHeld ?r8
        refine' wpAnyH_take (i := 8) (v := undef) rfl (by kernel_rfl) (by kernel_rfl) (by kernel_rfl) (fun _ _ _ h => h) (Or.inr ⟨by kernel_rfl, rfl⟩) hHeld ?r9
        refine' wpAnyH_take (i := 9) (v := undef) rfl (by kernel_rfl) (by kernel_rfl) (by kernel_rfl) (fun _ _ _ h => h) (Or.inr ⟨by kernel_rfl, rfl⟩) hHeld ?r10
        refine' wpAnyH_take (i := 10) (v := undef) rfl (by kernel_rfl) (by kernel_rfl) (by kernel_rfl) (fun _ _ _ h => h) (Or.inr ⟨by kernel_rfl, rfl⟩) hHeld ?r11
        refine' wpAnyH_take (i := 11) (v := undef) rfl (by kernel_rfl) (by kernel_rfl) (by kernel_rfl) (fun _ _ _ h => h) (Or.inr ⟨by kernel_rfl, rfl⟩) hHeld ?r12
        refine' wpAnyH_take (i := 12) (v := undef) rfl (by kernel_rfl) (by kernel_rfl) (by kernel_rfl) (fun _ _ _ h => h) (Or.inr ⟨by kernel_rfl, rfl⟩) hHeld ?r13
        refine' wpAnyH_take (i := 13) (v := undef) rfl (by kernel_rfl) (by kernel_rfl) (by kernel_rfl) (fun _ _ _ h => h) (Or.inr ⟨by kernel_rfl, rfl⟩) hHeld ?r14
        refine' wpAnyH_take (i := 14) (v := undef) rfl (by kernel_rfl) (by kernel_rfl) (by kernel_rfl) (fun _ _ _ h => h) (Or.inr ⟨by kernel_rfl, rfl⟩) hHeld ?r15
        refine' wpAnyH_take (i := 15) (v := undef) rfl (by kernel_rfl) (by kernel_rfl) (by kernel_rfl) (fun _ _ _ h => h) (Or.inr ⟨by kernel_rfl, rfl⟩) hHeld ?r16
        refine' wpAnyH_take (i := 16) (v := undef) rfl (by kernel_rfl) (by kernel_rfl) (by kernel_rfl) (fun _ _ _ h => h) (Or.inr ⟨by kernel_rfl, rfl⟩) hHeld ?r17
        refine' wpAnyH_take (i := 17) (v := undef) rfl (by kernel_rfl) (by kernel_rfl) (by kernel_rfl) (fun _ _ _ h => h) (Or.inr ⟨by kernel_rfl, rfl⟩) hHeld ?r18
        refine wpAnyH_ready (rs := [18]) (by kernel_rfl) (by simp) ?_
        refine AllReadyH.cons rfl (fun K hK => ?_) AllReadyH.nil
        go_simp
        refine hK.out _ _ hHeld (fun hHeld => ?_)
        clear hK
        refine wpAnyH_done (by kernel_rfl) ?_ _
        have S15 := L14.sight.turn_no (Turn.refl no w14).drew
        have T15 := L14.turn.drew
        clear L14 Lst Hx0 Hx1 Hx3 hcut hHeld
        generalize w14.drew = w15 at *
        go_wp2_with fail
        go_roundw
        case rel => exact ⟨i + 1, by omega, by go_num, S15, T15⟩
        case measure => simp [intOf]; omega
      · obtain ⟨N1, hN1, hN2⟩ : ∃ N1 : Nat, (s.length : Int) - 1 = (N1 : Int) ∧ N1 ≤ s.length := ⟨s.length - 1, by omega, by omega⟩
        have hz1 : (0 : Int) < (s.length : Int) := by omega
        have hN3 : (N1 : Int) ≤ (cap5 : Int) := by omega
        have hN4 : N1 ≤ cap5 := by omega
        have hz0 : 0 < s.length := by omega
        have hwN : IntKind.i64.wrap (N1 : Int) = (N1 : Int) := by rw [IntKind.wrap_i64]; omega
        refine wp_region_held_drew (S := fun W => Turn (fun g => g = (d k).p) w14 W) (by kernel_rfl) (Turn.refl _ w14).drew (fun hHeld => ?_)
        refine' wpAnyH_take (i := 0) (v := .slice (some ⟨g5, 0, none⟩) s.length cap5) rfl (by kernel_rfl) (by kernel_rfl) (by kernel_rfl) (fun _ _ _ h => h) (Or.inl ⟨by kernel_rfl, fun W hW => ?y19⟩) hHeld ?r19
        · go_simp
        refine' wpAnyH_take (i := 1) (v := .int .i64 s.length) rfl (by kernel_rfl) (by kernel_rfl) (by kernel_rfl) (fun _ _ _ h => h) (Or.inl ⟨by kernel_rfl, fun W hW => ?y20⟩) hHeld ?r20
        · go_simp
        refine' wpAnyH_take (i := 2) (v := .bool true) rfl (by kernel_rfl) (by kernel_rfl) (by kernel_rfl) (fun _ _ _ h => h) (Or.inl ⟨by kernel_rfl, fun W hW => ?y21⟩) hHeld ?r21
        · go_simp
        refine' wpAnyH_take (i := 3) (v := .bool true) rfl (by kernel_rfl) (by kernel_rfl) (by kernel_rfl) (fun _ _ _ h => h) (Or.inl ⟨by kernel_rfl, fun W hW => ?y22⟩) hHeld ?r22
        · go_simp
        refine' wpAnyH_take (i := 4) (v := .pointer (some ⟨sw, 0, none⟩)) rfl (by kernel_rfl) (by kernel_rfl) (by kernel_rfl) (fun _ _ _ h => h) (Or.inl ⟨by kernel_rfl, fun W hW => ?y23⟩) hHeld ?r23
        · go_simp
        refine' wpAnyH_take (i := 5) (v := .pointer (some ⟨gx, 0, none⟩)) rfl (by kernel_rfl) (by kernel_rfl) (by kernel_rfl) (fun _ _ _ h => h) (Or.inl ⟨by kernel_rfl, fun W hW => ?y24⟩) hHeld ?r24
        · go_simp
        refine' wpAnyH_take (i := 6) (v := .int .i64 k) rfl (by kernel_rfl) (by kernel_rfl) (by kernel_rfl) (fun _ _ _ h => h) (Or.inl ⟨by kernel_rfl, fun W hW => ?y25⟩) hHeld ?r25
        · have c := Hx0 W hW
          go_simp
        refine' wpAnyH_take (i := 7) (v := .pointer (some ⟨gx, 1, none⟩)) rfl (by kernel_rfl) (by kernel_rfl) (by kernel_rfl) (fun _ _ _ h => h) (Or.inl ⟨by kernel_rfl, fun W hW => ?y26⟩) hHeld ?r26
        · go_simp
        refine' wpAnyH_take (i := 8) (v := .int .u64 a.toNat) rfl (by kernel_rfl) (by kernel_rfl) (by kernel_rfl) (fun _ _ _ h => h) (Or.inl ⟨by kernel_rfl, fun W hW => ?y27⟩) hHeld ?r27
        · have c := Hx1 W hW
          go_simp
        refine' wpAnyH_take (i := 9) (v := .slice (some ⟨g5, 0, none⟩) s.length cap5) rfl (by kernel_rfl) (by kernel_rfl) (by kernel_rfl) (fun _ _ _ h => h) (Or.inl ⟨by kernel_rfl, fun W hW => ?y28⟩) hHeld ?r28
        · go_simp
        refine' wpAnyH_take (i := 10) (v := .slice (some ⟨g5, 0, none⟩) s.length cap5) rfl (by kernel_rfl) (by kernel_rfl) (by kernel_rfl) (fun _ _ _ h => h) (Or.inl ⟨by kernel_rfl, fun W hW => ?y29⟩) hHeld ?r29
        · go_simp
        refine' wpAnyH_take (i := 11) (v := .int .i64 s.length) rfl (by kernel_rfl) (by kernel_rfl) (by kernel_rfl) (fun _ _ _ h => h) (Or.inl ⟨by kernel_rfl, fun W hW => ?y30⟩) hHeld ?r30
        · go_simp
        refine' wpAnyH_take (i := 12) (v := .int .i64 N1) rfl (by kernel_rfl) (by kernel_rfl) (by kernel_rfl) (fun _ _ _ h => h) (Or.inl ⟨by kernel_rfl, fun W hW => ?y31⟩) hHeld ?r31
        · go_simp
        refine' wpAnyH_take (i := 13) (v := .slice (some ⟨g5, 0, none⟩) N1 cap5) rfl (by kernel_rfl) (by kernel_rfl) (by kernel_rfl) (fun _ _ _ h => h) (Or.inl ⟨by kernel_rfl, fun W hW => ?y32⟩) hHeld ?r32
        · go_simp
        refine' wpAnyH_take (i := 14) (v := .pointer (some ⟨gx, 3, none⟩)) rfl (by kernel_rfl) (by kernel_rfl) (by kernel_rfl) (fun _ _ _ h => h) (Or.inl ⟨by kernel_rfl, fun W hW => ?y33⟩) hHeld ?r33
        · go_simp
        refine' wpAnyH_take (i := 15) (v := _) rfl (by kernel_rfl) (by kernel_rfl) (by kernel_rfl) (fun _ _ _ h => h) (yieldsIf_load_mid (by kernel_rfl) _ _ rfl gx 3 (by kernel_rfl) XL _ (fun W h => Hx3 W h) Tryd.underlying33 rfl hX1) hHeld ?rl1
        refine wpAnyH_ready (rs := [16]) (by kernel_rfl) (by simp) ?_
        refine AllReadyH.cons rfl (fun K hK => ?_) AllReadyH.nil
        go_simp
        have L15 : Loc base w w14.drew sw d vb B gx gx gs WC (YB.map bv) (.slice (some ⟨g5, 0, none⟩) s.length cap5) mo s := L14.step hkl (L14.sight.turn_no (Turn.refl no w14).drew) (Turn.refl _ w14).drew
        have tr := truth36 L15.sight hkl a _ (s.take N1) (hcut _ L15.bm N1 hN2) SB hSBs.out (hl1'.out _ L15.turn) h2
        rw [hXLs.out] at tr
        refine tr.mono ?_
        rintro e w16 ⟨rfl, S16, t16⟩
        have T16 : Turn (fun g => base ≤ g) w w16 := L15.turn.trans t16 (fun g _ q => by subst q; exact L15.sight.fresh k _ hkl (.inl (.inl rfl)))
        have t16' : Turn (fun g => g = (d k).p) w14 w16 := ((Turn.refl no w14).drew.of_no).trans t16 (fun _ _ q => q)
        go_wp2_with fail
        refine hK.out _ _ t16' (fun hHeld => ?_)
        clear hK
        refine' wpAnyH_take (i := 17) (v := .bool false) rfl (by kernel_rfl) (by kernel_rfl) (by kernel_rfl) (fun _ _ _ h => h) (Or.inl ⟨by kernel_rfl, fun W hW => ?y34⟩) hHeld ?r34
        · go_simp
        refine wpAnyH_ready (rs := [18]) (by kernel_rfl) (by simp) ?_
        refine AllReadyH.cons rfl (fun K hK => ?_) AllReadyH.nil
        go_simp
        refine hK.out _ _ hHeld (fun hHeld => ?_)
        clear hK
        refine wpAnyH_done (by kernel_rfl) ?_ _
        clear L14 L15 Lst Hx0 Hx1 Hx3 hcut hHeld tr t16 t16'
        go_wp2_with fail
        go_roundw
        case rel => exact ⟨i + 1, by omega, by go_num, S16, T16⟩
        case measure => simp [intOf]; omega
    · have hin : i = n := by omega
      subst hin
      have hlt' : ¬ (i : Int) < (i : Int) := by omega
      go_wp2_with fail
      go_ret
      exact ⟨rfl, S, T⟩
end
end Go.Proofs.YtnlcngcilojnkaaDoor
