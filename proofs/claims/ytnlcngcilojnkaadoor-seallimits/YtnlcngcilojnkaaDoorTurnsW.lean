/- The walk of SealTurns. -/
import Derived.Test.YtnlcngcilojnkaaDoorO1
import Derived.Test.YtnlcngcilojnkaaDoorStrangeW
namespace Go.Proofs.YtnlcngcilojnkaaDoor
open Go.RowKit Go.Maps Go.MuLone
set_option linter.unusedVariables false

theorem xor51 : ∀ n : Fin 256, bits .xor .u8 (n.val : Int) 51 = ((UInt8.ofNat n.val ^^^ 51).toNat : Int) := by decide +kernel
theorem xor_bv (b : UInt8) : Value.int .u8 (bits .xor .u8 (b.toNat : Int) 51) = bv (b ^^^ 51) := by
  have := xor51 ⟨b.toNat, b.toNat_lt⟩
  unfold bv
  rw [show ((⟨b.toNat, b.toNat_lt⟩ : Fin 256).val) = b.toNat from rfl] at this
  rw [this]
  simp
theorem neq33 (w : World) (X Y : List UInt8) (hx : X.length = 16) (hy : Y.length = 16) : (binOp .neq 33 (.agg (X.map bv).toArray) (.agg (Y.map bv).toArray)).run Tryd.prog w = .ok (.bool (!(X == Y))) w := by
  rw [run_neq_struct, eqIn33 w X Y hx hy]
  rfl
theorem over_bytes (Z X : List UInt8) : over (Z.map bv).toArray 0 (X.map bv) = ((X ++ Z.drop X.length).map bv).toArray := by
  unfold over
  simp [List.map_drop]
theorem wpList_copy_of {P : Program} {ops : Array Oper} {rest : List Oper} {o : Oper} {a : Act} {w : World} {Q : Exit → Act → World → Prop} (hgd : o.guard = none) (s x : Operand) {t tx : TypeId}
    (ho : o.op = .call { callee := .builtin .copy, args := #[s, x], argTypes := #[t, tx] }) (v xv : Value) (hs : a.eval s = v) (hx : a.eval x = xv) {v' : Value} {w' : World}
    (hr : (Builtin.copy_ #[t, tx] o.type #[v, xv]).run P w = .ok v' w') (h : wpList P ops Q rest (a.put o.dst v') w') : wpList P ops Q (o :: rest) a w :=
  wpList_plain hgd fun _ hK => wp_copy_run s x ho v xv hs hx hr (hK _ _ h)
theorem made_zeros (N : Nat) : (madeCells #[Value.int .u8 0] N).toList = (List.replicate N (0 : UInt8)).map bv := by
  apply List.ext_getElem
  · simp [madeCells]
  · intro i h1 h2
    simp [madeCells, bv, Nat.mod_one]
theorem own_row {W : World} {g N : Nat} {Z : List UInt8} (h : W.ownsRow 0 5 1 (.slice (some ⟨g, 0, none⟩) N N) N (Z.map bv)) (hz : Z.length = N) : Row W g (Z.map bv).toArray 5 := by
  have ho : Own W 5 (.slice (some ⟨g, 0, none⟩) N N) (Z.map bv) := by
    unfold Own
    rw [List.length_map, hz]
    exact h
  rcases ho.shape with ⟨e, _⟩ | ⟨g', cap, cur, e, hg, h1, h2, h3, h4⟩
  · cases e
  · cases e
    have hc : cur = (Z.map bv).toArray := by
      have : cur.toList = Z.map bv := by
        rw [← h4, List.take_of_length_le]
        rw [Array.length_toList, h3, List.length_map]
        omega
      rw [← this]
    rw [hc] at hg
    exact hg

set_option maxRecDepth 100000 in
set_option maxHeartbeats 8000000 in
theorem turns_main (w : World) (a : UInt64) (vx vy : Value) (xs ys : List UInt8) (hx : Bs w vx xs) (hy : Bs w vy ys) (hl0 : Laid0 w) (hl1 : Laid1 w) (h2 : 2 ≤ w.heap.size) (ha : ¬ (a.toNat : Int) = 0) (lx : xs.length ≤ 1000) (ly : ys.length ≤ 1000) :
    Calls Tryd.prog 5 #[.int .u64 a.toNat, vx, vy] w fun e w' => e = .returned (.bool true) ∧ Turn no w w' := by
  have hz1 : ((a.toNat : Int) == 0) = false := by simpa using ha
  have hz2 : ((a.toNat : Int) != 0) = true := by simpa using ha
  have lx' : ¬ (1000 : Int) < (xs.length : Int) := by omega
  have ly' : ¬ (1000 : Int) < (ys.length : Int) := by omega
  obtain ⟨ax, cx, e⟩ := hx.slice
  subst e
  obtain ⟨ay, cy, e⟩ := hy.slice
  subst e
  obtain ⟨i5, hi5, hz0, hzs, hzb⟩ := info_parts Tryd.info5
  obtain ⟨N, hN⟩ : ∃ N, N = max xs.length ys.length := ⟨_, rfl⟩
  have hNi : max (xs.length : Int) (ys.length : Int) = (N : Int) := by omega
  have hN1 : N ≤ 1000 := by omega
  have hNx : xs.length ≤ N := by omega
  have hNy : ys.length ≤ N := by omega
  clear hN
  go_enter Tryd.func5, Tryd.ntmps5
  go_wp2_with fail
  refine (new9 _).mono ?_
  rintro e w1 ⟨p, br, bt, rfl, hp, hr, ht, G1, t1⟩
  have hen := enter_new G1 a ha (has_none _) (by simp [maxLen])
  go_wp2_with fail
  refine hen.mono ?_
  rintro e w2 ⟨q, rfl, hq, sg, G2, t2⟩
  have D2a : ((.map [] : DataW Value).put (adKey a) (.held (.slice none 0 0))).atKey (adKey a) (.held (.slice none 0 0)) = .held (.slice none 0 0) := atKey_put_same isMap_empty (law29.key (adKey_of a)) _ _
  have hDAm : IsMap ((.map [] : DataW Value).put (adKey a) (.held (.slice none 0 0))) := isMap_empty.put _ _
  generalize (.map [] : DataW Value).put (adKey a) (.held (.slice none 0 0)) = DA at *
  have s1 := t1.size
  have hp1 : p < w1.heap.size := Row.lt G1.row
  have hr1 : br < w1.heap.size := G1.recs.lt
  have ht1 : bt < w1.heap.size := G1.texts.lt
  have T2 : Turn no w w2 := (t1.of_no.trans t2 (fun _ _ q => q)).mono (S := fun k => k = p ∨ k = bt) (fun i hi q => by omega)
  have hq2 : q < w2.heap.size := Row.lt sg
  clear hen G1 t1 t2
  go_wp2_with fail
  refine (num11 _ _).mono ?_
  rintro e w3 ⟨rfl, he3⟩
  subst he3
  go_wp2_with (at_make; refine wpList_make_full _ rfl _ _ 31 rfl 0 5 i5 (.int .u8 0) 1 Tryd.underlying31 hi5 hz0 hzs _ _ _ _ N rfl rfl rfl rfl (by rw [hzb]; omega) (by simp only [maxLen]; omega) (Nat.zero_le _) ?_)
  intro w4 O4 gr4
  rw [made_zeros] at O4
  have Rm4 := own_row O4 (by simp)
  obtain ⟨Z, hZ⟩ : ∃ Z : List UInt8, Z = List.replicate N 0 := ⟨_, rfl⟩
  have hZl : Z.length = N := by rw [hZ]; simp
  rw [← hZ] at Rm4
  clear O4 hZ
  have t4 : Turn no w3 w4 := (Turn.refl no w3).grown gr4 (fun k q => by cases q)
  have T4 := T2.then_no t4
  have G4 := G2.turn t4 (fun q => q) (fun q => q) (fun q => q)
  have sg4 : Sg w4 q p a := Row.turn sg t4 (fun q => q)
  have s3 : w3.heap.size < w4.heap.size := Rm4.lt
  generalize hgm : w3.heap.size = gm at *
  clear t4 gr4 G2 sg T2
  obtain ⟨w5, hc5, Rm5, t5⟩ := run_copy_over w4 3 gm 0 N N _ xs (Z.map bv).toArray 5 Rm4 (hx.turn_no T4) (by simp [hZl]; omega)
  rw [show min xs.length N = xs.length by omega, List.take_of_length_le (Nat.le_refl _), over_bytes] at Rm5
  obtain ⟨M1, hM1⟩ : ∃ M : List UInt8, M = xs ++ Z.drop xs.length := ⟨_, rfl⟩
  have hM1l : M1.length = N := by rw [hM1]; simp [hZl]; omega
  rw [← hM1] at Rm5
  have hw4 := T4.size
  have T5 : Turn no w w5 := (T4.of_no.trans t5 (fun _ _ q => q)).mono (S := fun k => k = gm) (fun i hi q => by have := T4.size; omega)
  have G5 := G4.turn t5 (fun e => by omega) (fun e => by omega) (fun e => by omega)
  have sg5 : Sg w5 q p a := Row.turn sg4 t5 (fun e => by omega)
  have s5 := t5.size
  clear hM1 G4 sg4 Rm4 T4 t5
  have hbs : ∀ W (M : List UInt8), M.length = N → Row W gm (M.map bv).toArray 5 → Bs W (.slice (some ⟨gm, 0, none⟩) N N) M := fun W M hM h => by
    have := row_bs h (by rw [hM]; simp only [maxLen]; omega)
    rwa [hM] at this
  have hsrc : ∀ W (M : List UInt8), M.length = N → Row W gm (M.map bv).toArray 5 → Src Tryd.prog 1 31 (.slice (some ⟨gm, 0, none⟩) N N) N (M.map bv) W := fun W M hM h => by
    have := (hbs W M hM h).src (P := Tryd.prog) Tryd.underlying31
    rwa [hM] at this
  go_wp2_with (at_builtin; first | (refine wpList_copy_of rfl _ _ rfl _ _ rfl rfl hc5 ?_) | (refine wpList_append_src rfl (.tmp 60) (.tmp 61) rfl Tryd.underlying31 Tryd.info5 rfl _ [] rfl (Own.nil _ _) _ N (M1.map bv) rfl (hsrc w5 M1 hM1l Rm5) (by simp; omega) (by simp [maxLen]; omega) ?_))
  intro v6 w6 O6 gr6 _
  have f6 : ∀ g, v6.ownBlock = some g → w5.heap.size ≤ g := gr6.fresh (fun g q => by cases q) (Nat.le_refl _)
  have t6 : Turn no w5 w6 := (Turn.refl no w5).fresh gr6 (fun g q => by cases q)
  have B6 : Bs w6 v6 M1 := Own.bs (e := 5) (by simpa using O6)
  have f6' : ∀ g, v6.ownBlock = some g → g < w6.heap.size := fun g q => O6.lt q
  have T6 := T5.then_no t6
  have G6 := G5.turn t6 (fun q => q) (fun q => q) (fun q => q)
  have sg6 : Sg w6 q p a := Row.turn sg5 t6 (fun q => q)
  have Rm6 := Rm5.turn t6 (fun q => q)
  have s6 := t6.size
  obtain ⟨a6, c6, hv6⟩ := B6.slice
  rw [hM1l] at hv6
  clear O6 gr6 t6 G5 sg5 Rm5 hc5 T5
  subst hv6
  have hm5 : gm < w5.heap.size := by omega
  -- the first Sign
  have hsl : (⟨M1.toArray⟩ : ByteArray).size ≤ maxLen := by simp [ByteArray.size, hM1l, maxLen]; omega
  have hsg := sign12 w6 q p a (.slice (some ⟨gm, 0, none⟩) N N) M1 sg6 G6.c0 (hbs w6 M1 hM1l Rm6) (hl1.turn T6 (fun q => q)) (by omega) (by omega)
    (fun k => k = p ∨ k = br ∨ k = bt) (fun W => ∃ v', Own W 9 v' [.string ⟨M1.toArray⟩] ∧ (∀ k, v'.ownBlock = some k → w6.heap.size < k) ∧ Reg W p br bt 2 ((.map [] : DataW Value).put (recKey Tryd.prog a ⟨M1.toArray⟩) (.agg [])) (DA.put (adKey a) (.held v')))
    (fun k hk => ⟨by omega, by omega, by omega, fun _ e => by simp [Value.ownBlock] at e; omega⟩)
    (fun W W' ⟨v', ho, hv, h⟩ t => ⟨v', ho.turn t (fun g hg e => by have := hv g hg; omega), hv, h.turn t (fun e => by omega) (fun e => by omega) (fun e => by omega)⟩)
    (fun W t => (note_new (G6.turn t (fun q => q) (fun q => q) (fun q => q)) a ⟨M1.toArray⟩ hsl (has_none _) (by simp [maxLen]) (.slice none 0 0) [] D2a (Own.nil W 9) (by simp)).mono (by
      rintro e w' ⟨rfl, v', ho, hv, G, t'⟩
      refine ⟨rfl, t'.mono (fun i hi q => ?_), v', by simpa using ho, fun k hk => ?_, G⟩
      · rcases q with q | q | q | q
        · exact Or.inl q
        · exact Or.inr (Or.inl q)
        · exact Or.inr (Or.inr q)
        · cases q
      · rcases hv with e | ⟨g, e, hg⟩
        · rw [e] at hk
          cases hk
        · rw [e] at hk
          cases hk
          have := t.size
          omega))
  have k1 : has ((.map [] : DataW Value).put (recKey Tryd.prog a ⟨M1.toArray⟩) (.agg [])) (recKey Tryd.prog a ⟨M1.toArray⟩) = true := has_put_same isMap_empty (law86.key (recKey_of a _ hsl)) _
  have k2 : ∀ M : List UInt8, M.length = N → M ≠ M1 → has ((.map [] : DataW Value).put (recKey Tryd.prog a ⟨M1.toArray⟩) (.agg [])) (recKey Tryd.prog a ⟨M.toArray⟩) = false := fun M hM hne => by
    rw [has_put_other (fun e => hne (by
      have := (recKey_inj (by simp [ByteArray.size, hM, maxLen]; omega) hsl e).2
      simpa using this))]
    rfl
  have k4 : IsMap ((.map [] : DataW Value).put (recKey Tryd.prog a ⟨M1.toArray⟩) (.agg [])) := isMap_empty.put _ _
  generalize (.map [] : DataW Value).put (recKey Tryd.prog a ⟨M1.toArray⟩) (.agg []) = DR at *
  have hSz : sealV a M1 = ((sealB a M1).map bv).toArray := rfl
  have hX1 := sealB_len a M1
  rw [hSz] at hsg
  have hof := fun W (b : Bs W (.slice a6 N c6) M1) l h2 => of17 W a (.slice a6 N c6) M1 b l h2 (by omega)
  rw [hSz] at hof
  have hcy := fun W n D3 (h : Reg W p br bt n DR D3) v (b : Bs W v M1) hbp l h2 => check_yes h a v M1 b hbp (sealB a M1) hX1 k1 l h2 (by omega) (by omega)
  have hne33 := fun W => neq33 W (sealB a M1) (sealB a M1) hX1 hX1
  have hbb : (sealB a M1 == sealB a M1) = true := by simp
  simp only [hbb, Bool.not_true] at hcy hne33
  have hXl : ((sealB a M1).map bv).length = 16 := by simpa using hX1
  have hXo : ((sealB a M1).map bv).toArray.all (·.oneCell') = true := by
    rw [List.all_toArray]
    exact List.all_eq_true.2 (fun x hx => bv_one (sealB a M1) x hx)
  obtain ⟨XL, hSh1⟩ : ∃ XL, Shut ((sealB a M1).map bv = XL) := ⟨_, rfl⟩
  rw [show (sealB a M1).map bv = XL from hSh1.out] at hsg hof hne33 hXl hXo
  simp only [show (sealB a M1).map bv = XL from hSh1.out] at hcy
  have hXi : (Tryd.prog.info? 33).map (·.size) = some XL.toArray.size := by simp [hXl, size33]
  have hXi' : (Tryd.prog.info? 33).map (·.size) = some XL.length := by rw [hXl]; exact size33
  have hXs : XL.toArray.size = 16 := by simpa using hXl
  have hu := Tryd.underlying33
  go_wp2_with fail
  refine hsg.mono ?_
  rintro e w7 ⟨rfl, t7, v', Ov7, fv7, G7⟩
  have T7 : Turn no w w7 := (T6.of_no.trans t7 (fun _ _ q => q)).mono (S := fun k => k = p ∨ k = br ∨ k = bt) (fun i hi q => by omega)
  have sg7 : Sg w7 q p a := Row.turn sg6 t7 (fun e => by omega)
  have Rm7 := Rm6.turn t7 (fun e => by omega)
  have B7 := B6.late t7 (fun _ g hg e => by have := f6 g hg; omega)
  have s7 := t7.size
  clear hsg t7 sg6 Rm6 B6 G6 T6
  have R13' : ∀ z, Row ((w7.alloc (.cells z 33)).setRow w7.heap.size XL.toArray) w7.heap.size XL.toArray 33 := fun z => setRow_heap _ _ _ _ _ _ (heap_alloc_new w7 _)
  go_wp2_with (first | (refine wpList_store_row rfl 33 (.tmp 13) (.tmp 67) rfl w7.heap.size XL.toArray rfl rfl 33 _ (heap_alloc_new w7 _) hXi (by rw [hXs]; kernel_rfl) hXo ?_) | (refine wpList_load_row rfl 33 (.tmp 13) rfl w7.heap.size rfl 33 XL.toArray (0, 0) _ (R13' _) hu rfl hXi ?_))
  rw [World.setRow_alloc_new]
  have R8 := Row.new w7 XL.toArray 33
  have t8 : Turn no w7 (w7.alloc (.cells XL.toArray 33)) := (Turn.refl no w7).alloc _
  have T8 := T7.then_no t8
  have G8 := G7.turn t8 (fun q => q) (fun q => q) (fun q => q)
  have sg8 : Sg _ q p a := Row.turn sg7 t8 (fun q => q)
  have Rm8 := Rm7.turn t8 (fun q => q)
  have B8 := B7.turn_no t8
  have Ov8 := Ov7.turn_no t8
  have fv7' : ∀ k, v'.ownBlock = some k → k < w7.heap.size := fun k hk => Ov7.lt hk
  clear R13' t8 sg7 Rm7 B7 G7 T7 Ov7
  have s8 : ∃ d, (w7.alloc (.cells XL.toArray 33)).heap.size = w7.heap.size + 1 + d := ⟨0, by simp⟩
  generalize w7.alloc (.cells XL.toArray 33) = w8 at *
  generalize w7.heap.size = g13 at *
  have hc1 := hcy w8 2 _ G8 _ (hbs w8 M1 hM1l Rm8) (fun _ e => by simp [Value.ownBlock] at e; omega) (hl1.turn T8 (fun q => q)) (by have := T8.size; omega)
  refine hc1.mono ?_
  rintro e w9 ⟨rfl, G9, t9⟩
  have T9 : Turn no w w9 := (T8.of_no.trans t9 (fun _ _ q => q)).mono (S := fun k => k = p) (fun i hi q => by omega)
  have sg9 : Sg w9 q p a := Row.turn sg8 t9 (fun e => by omega)
  have Rm9 := Rm8.turn t9 (fun e => by omega)
  have B9 := B8.late t9 (fun _ g hg e => by have := f6 g hg; omega)
  have Ov9 := Ov8.turn t9 (fun g hg e => by have := fv7 g hg; omega)
  have R9 := R8.turn t9 (fun e => by omega)
  have s9 := t9.size
  clear hc1 t9 sg8 Rm8 B8 G8 T8 Ov8 R8
  go_wp2_with fail
  refine wp_region_held_drew (S := fun W => Turn no w9 W) (by kernel_rfl) (Turn.refl _ w9).drew (fun hHeld => ?_)
  refine' wpAnyH_take (i := 0) (v := .int .i64 0) rfl (by kernel_rfl) (by kernel_rfl) (by kernel_rfl) (fun _ _ _ h => h) (Or.inl ⟨by kernel_rfl, fun W hW => ?y1⟩) hHeld ?r1
  · go_simp
  refine wpAnyH_ready (rs := [1]) (by kernel_rfl) (by simp) ?_
  refine AllReadyH.cons rfl (fun K hK => ?_) AllReadyH.nil
  go_simp
  refine (num11 _ _).mono ?_
  rintro e w10 ⟨rfl, he10⟩
  go_wp2_with fail
  subst he10
  refine hK.out _ _ hHeld (fun hHeld => ?_)
  clear hK
  refine' wpAnyH_take (i := 2) (v := .bool false) rfl (by kernel_rfl) (by kernel_rfl) (by kernel_rfl) (fun _ _ _ h => h) (Or.inl ⟨by kernel_rfl, fun W hW => ?y2⟩) hHeld ?r2
  · go_simp
  refine' wpAnyH_take (i := 3) (v := .bool false) rfl (by kernel_rfl) (by kernel_rfl) (by kernel_rfl) (fun _ _ _ h => h) (Or.inl ⟨by kernel_rfl, fun W hW => ?y3⟩) hHeld ?r3
  · go_simp
  refine' wpAnyH_take (i := 4) (v := _) rfl (by kernel_rfl) (by kernel_rfl) (by kernel_rfl) (fun _ _ _ h => h) (yieldsIf_load_mid (by kernel_rfl) _ _ rfl _ _ rfl XL _ (fun W h => (R9.turn h (fun q => q)).range) hu rfl hXi') hHeld ?rl4
  refine' wpAnyH_take (i := 5) (v := .int .u64 a.toNat) rfl (by kernel_rfl) (by kernel_rfl) (by kernel_rfl) (fun _ _ _ h => h) (Or.inl ⟨by kernel_rfl, fun W hW => ?y4⟩) hHeld ?r4
  · go_simp
  refine' wpAnyH_take (i := 6) (v := .slice a6 N c6) rfl (by kernel_rfl) (by kernel_rfl) (by kernel_rfl) (fun _ _ _ h => h) (Or.inl ⟨by kernel_rfl, fun W hW => ?y5⟩) hHeld ?r5
  · go_simp
  refine wpAnyH_ready (rs := [7]) (by kernel_rfl) (by simp) ?_
  refine AllReadyH.cons rfl (fun K hK => ?_) AllReadyH.nil
  go_simp
  refine (hof _ (B9.turn_no (Turn.refl no w9).drew) (hl0.turn T9.drew (fun q => q)) (by have := T9.drew.size; omega)).mono ?_
  rintro e w11 ⟨rfl, t11⟩
  have t11' : Turn no w9 w11 := (Turn.refl no w9).drew.then_no t11
  go_wp2_with fail
  refine hK.out _ _ t11' (fun hHeld => ?_)
  clear hK
  refine' wpAnyH_take (i := 8) (v := .bool false) rfl (by kernel_rfl) (by kernel_rfl) (by kernel_rfl) (fun _ _ _ h => h) (Or.inl ⟨by kernel_rfl, fun W hW => ?y6⟩) hHeld ?r6
  · go_simp
  refine' wpAnyH_take (i := 9) (v := .bool false) rfl (by kernel_rfl) (by kernel_rfl) (by kernel_rfl) (fun _ _ _ h => h) (Or.inl ⟨by kernel_rfl, fun W hW => ?y7⟩) hHeld ?r7
  · go_simp
  refine' wpAnyH_take (i := 10) (v := .bool false) rfl (by kernel_rfl) (by kernel_rfl) (by kernel_rfl) (fun _ _ _ h => h) (Or.inl ⟨by kernel_rfl, fun W hW => ?y8⟩) hHeld ?r8
  · go_simp
  refine' wpAnyH_take (i := 11) (v := .bool true) rfl (by kernel_rfl) (by kernel_rfl) (by kernel_rfl) (fun _ _ _ h => h) (Or.inl ⟨by kernel_rfl, fun W hW => ?y9⟩) hHeld ?r9
  · go_simp
  refine' wpAnyH_take (i := 12) (v := .bool false) rfl (by kernel_rfl) (by kernel_rfl) (by kernel_rfl) (fun _ _ _ h => h) (Or.inl ⟨by kernel_rfl, fun W hW => ?y10⟩) hHeld ?r10
  · go_simp
  refine wpAnyH_ready (rs := [13]) (by kernel_rfl) (by simp) ?_
  refine AllReadyH.cons rfl (fun K hK => ?_) AllReadyH.nil
  go_simp
  refine hK.out _ _ hHeld (fun hHeld => ?_)
  clear hK
  refine wpAnyH_done (by kernel_rfl) ?_ _
  have T11 := T9.then_no t11'
  have G11 := G9.turn t11' (fun q => q) (fun q => q) (fun q => q)
  have sg11 : Sg w11 q p a := Row.turn sg9 t11' (fun q => q)
  have Rm11 := Rm9.turn t11' (fun q => q)
  have B11 := B9.turn_no t11'
  have Ov11 := Ov9.turn_no t11'
  have R11 := R9.turn t11' (fun q => q)
  have s11 := t11'.size
  clear hHeld t11 t11' T9 G9 sg9 Rm9 B9 Ov9 R9
  go_wp2_with fail
  go_loopw [15] (fun c wr => ∃ (k : Nat) (M : List UInt8), k ≤ N ∧ c = .int .i64 k ∧ M.length = N ∧ Row wr gm (M.map bv).toArray 5 ∧ Turn (fun k => k = gm) w11 wr) (fun c _ => N - (intOf c).toNat)
  case atStart => exact ⟨0, M1, Nat.zero_le _, rfl, hM1l, Rm11, Turn.refl _ _⟩
  case round =>
    obtain ⟨k, M, hk, rfl, hMl, Rm, tl⟩ := hrel
    by_cases hlt : k < N
    · have hlt' : (k : Int) < (N : Int) := by omega
      obtain ⟨mb, hmb⟩ : ∃ mb, M[k]? = some mb := ⟨M[k]'(by omega), List.getElem?_eq_getElem (by omega)⟩
      have cm : wr.cell? ⟨gm, k, none⟩ = some (.int .u8 (mb.toNat : Int)) := Rm.cell k (bv mb) (by simp [hmb])
      have fm := Rm.frozen k
      clear hcy hof hne33 hbs hsrc k1 k2
      go_wp2_with fail
      go_roundw
      case rel =>
        refine ⟨k + 1, M.set k (mb ^^^ 51), by omega, by go_num, by simpa using hMl, ?_, tl.setCell (fun _ => rfl) _⟩
        have := Rm.set k (.int .u8 (bits .xor .u8 (mb.toNat : Int) 51))
        rw [xor_bv mb] at this ⊢
        have he : (M.map bv).toArray.setIfInBounds k (bv (mb ^^^ 51)) = ((M.set k (mb ^^^ 51)).map bv).toArray := by
          simp [List.map_set]
        rwa [he] at this
      case measure => simp [intOf]; omega
    · have hlt' : ¬ (k : Int) < (N : Int) := by omega
      have hkN : k = N := by omega
      subst hkN
      have Tr : Turn no w wr := (T11.of_no.trans tl (fun _ _ q => q)).mono (S := fun j => j = gm) (fun i hi q => by omega)
      have Gr := G11.turn tl (fun e => by omega) (fun e => by omega) (fun e => by omega)
      have sgr : Sg wr q p a := Row.turn sg11 tl (fun e => by omega)
      have Br := B11.late tl (fun _ g hg e => by have := f6 g hg; omega)
      have Ovr := Ov11.turn tl (fun g hg e => by have := fv7 g hg; omega)
      have Rr := R11.turn tl (fun e => by obtain ⟨d, hd⟩ := s8; omega)
      have sr := tl.size
      clear G11 sg11 B11 Ov11 R11 tl
      obtain ⟨wc, hcc, Rmc, tc⟩ := run_copy_over wr 3 gm 0 k k _ ys (M.map bv).toArray 5 Rm (hy.turn_no Tr) (by simp [hMl]; omega)
      rw [show min ys.length k = ys.length by omega, List.take_of_length_le (Nat.le_refl _), over_bytes] at Rmc
      obtain ⟨M2, hM2⟩ : ∃ M' : List UInt8, M' = ys ++ M.drop ys.length := ⟨_, rfl⟩
      have hM2l : M2.length = k := by rw [hM2]; simp [hMl]; omega
      rw [← hM2] at Rmc
      have Tc : Turn no w wc := (Tr.of_no.trans tc (fun _ _ q => q)).mono (S := fun j => j = gm) (fun i hi q => by omega)
      have Gc := Gr.turn tc (fun e => by omega) (fun e => by omega) (fun e => by omega)
      have sgc : Sg wc q p a := Row.turn sgr tc (fun e => by omega)
      have Bc := Br.late tc (fun _ g hg e => by have := f6 g hg; omega)
      have Ovc := Ovr.turn tc (fun g hg e => by have := fv7 g hg; omega)
      have Rc := Rr.turn tc (fun e => by obtain ⟨d, hd⟩ := s8; omega)
      have sc := tc.size
      clear hM2 Gr sgr Br Ovr Rr tc Rm Tr
      go_wp2_with (at_builtin; first | (refine wpList_copy_of rfl _ _ rfl _ _ rfl rfl hcc ?_) | (refine wpList_append_src rfl (.tmp 104) (.tmp 105) rfl Tryd.underlying31 Tryd.info5 rfl _ [] rfl (Own.nil _ _) _ k (M2.map bv) rfl (hsrc wc M2 hM2l Rmc) (by simp; omega) (by simp [maxLen]; omega) ?_))
      intro vs ws Os grs _
      have fs : ∀ g, vs.ownBlock = some g → wc.heap.size ≤ g := grs.fresh (fun g q => by cases q) (Nat.le_refl _)
      have ts : Turn no wc ws := (Turn.refl no wc).fresh grs (fun g q => by cases q)
      have Bs2 : Bs ws vs M2 := Own.bs (e := 5) (by simpa using Os)
      have Ts := Tc.then_no ts
      have Gs := Gc.turn ts (fun q => q) (fun q => q) (fun q => q)
      have sgs : Sg ws q p a := Row.turn sgc ts (fun q => q)
      have Rms := Rmc.turn ts (fun q => q)
      have Bf := Bc.turn_no ts
      have Ovs := Ovc.turn_no ts
      have Rs := Rc.turn ts (fun q => q)
      have ss := ts.size
      obtain ⟨a16, c16, hvs⟩ := Bs2.slice
      rw [hM2l] at hvs
      clear Os grs ts Gc sgc Rmc Bc Ovc Rc hcc Tc
      subst hvs
      have cv1 := bytes_text Bf
      have cv2 := bytes_text Bs2
      have hY1 := sealB_len a M2
      have hYl : ((sealB a M2).map bv).length = 16 := by simpa using hY1
      have hYo : ((sealB a M2).map bv).toArray.all (·.oneCell') = true := by
        rw [List.all_toArray]
        exact List.all_eq_true.2 (fun x hx => bv_one (sealB a M2) x hx)
      have hof2 := fun W (b : Bs W (.slice a16 k c16) M2) l h2 => of17 W a (.slice a16 k c16) M2 b l h2 (by omega)
      rw [show sealV a M2 = ((sealB a M2).map bv).toArray from rfl] at hof2
      have heq33 := fun W => eql33 W (sealB a M2) (sealB a M2) hY1 hY1
      have hbb2 : (sealB a M2 == sealB a M2) = true := by simp
      simp only [hbb2] at heq33
      obtain ⟨YL, hSh2⟩ : ∃ YL, Shut ((sealB a M2).map bv = YL) := ⟨_, rfl⟩
      have hmp : M2 ≠ [] → (Value.slice (some ⟨gm, 0, none⟩) k k).ownBlock ≠ some p := fun _ e => by simp [Value.ownBlock] at e; omega
      have hck2 : ∀ W D3, Reg W p br bt 2 DR D3 → Bs W (.slice (some ⟨gm, 0, none⟩) k k) M2 → Laid1 W → 2 ≤ W.heap.size → Calls Tryd.prog 14 #[.pointer (some ⟨p, 0, none⟩), .int .u64 a.toNat, .slice (some ⟨gm, 0, none⟩) k k, .agg YL.toArray] W (fun e w' => e = .returned (.bool (M1 == M2)) ∧ Reg w' p br bt 2 DR D3 ∧ Turn (fun k => k = p) W w') := by
        intro W D3 h b l h2
        rw [← hSh2.out]
        by_cases hal : M1 = M2
        · subst hal
          have := check_yes h a _ M1 b hmp (sealB a M1) hX1 k1 l h2 (by omega) (by omega)
          rw [beq_self_eq_true] at this
          rw [beq_self_eq_true]
          exact this
        · rw [beq_false_of_ne hal]
          exact check_no h a _ M2 b hmp (sealB a M2) hY1 (k2 M2 hM2l (Ne.symm hal))
      have hck3 : ∀ W D3, Reg W p br bt 2 DR D3 → Bs W (.slice (some ⟨gm, 0, none⟩) k k) M2 → Laid1 W → 2 ≤ W.heap.size → Calls Tryd.prog 14 #[.pointer (some ⟨p, 0, none⟩), .int .u64 a.toNat, .slice (some ⟨gm, 0, none⟩) k k, .agg XL.toArray] W (fun e w' => e = .returned (.bool (M1 == M2)) ∧ Reg w' p br bt 2 DR D3 ∧ Turn (fun k => k = p) W w') := by
        intro W D3 h b l h2
        rw [← hSh1.out]
        by_cases hal : M1 = M2
        · subst hal
          have := check_yes h a _ M1 b hmp (sealB a M1) hX1 k1 l h2 (by omega) (by omega)
          rw [beq_self_eq_true] at this
          rw [beq_self_eq_true]
          exact this
        · rw [beq_false_of_ne hal]
          exact check_no h a _ M2 b hmp (sealB a M1) hX1 (k2 M2 hM2l (Ne.symm hal))
      have hsl2 : (⟨M2.toArray⟩ : ByteArray).size ≤ maxLen := by simp [ByteArray.size, hM2l, maxLen]; omega
      have k5 : (DA.put (adKey a) (.held v')).atKey (adKey a) (.held (.slice none 0 0)) = .held v' := atKey_put_same hDAm (law29.key (adKey_of a)) _ _
      have hsg2 : ∀ W, Turn no w W → g13 < W.heap.size → Reg W p br bt 2 DR (DA.put (adKey a) (.held v')) → Sg W q p a → Own W 9 v' [.string ⟨M1.toArray⟩] → Bs W (.slice (some ⟨gm, 0, none⟩) k k) M2 → Calls Tryd.prog 12 #[.pointer (some ⟨q, 0, none⟩), .slice (some ⟨gm, 0, none⟩) k k] W (fun e w' => e = .returned (.tuple #[.agg YL.toArray, .int .i64 0]) ∧ Turn (fun j => j = p ∨ j = br ∨ j = bt ∨ v'.ownBlock = some j) W w' ∧ ∃ n DX D3, Reg w' p br bt n DX D3 ∧ has DX (recKey Tryd.prog a ⟨M1.toArray⟩) = true ∧ has DX (recKey Tryd.prog a ⟨M2.toArray⟩) = true) := by
        intro W tW hgW h sgW OW bW
        rw [← hSh2.out]
        have sW := tW.size
        refine sign12 W q p a _ M2 sgW h.c0 bW (hl1.turn tW (fun q => q)) (by omega) (by omega) _ _ (fun j hj => ?_) (fun W1 W2 ⟨n, DX, D3, h1, r⟩ t => ⟨n, DX, D3, h1.turn t (fun e => by omega) (fun e => by omega) (fun e => by omega), r⟩) (fun W1 t => ?_)
        · rcases hj with hj | hj | hj | hj
          · exact ⟨by omega, by omega, by omega, fun _ e => by simp [Value.ownBlock] at e; omega⟩
          · exact ⟨by omega, by omega, by omega, fun _ e => by simp [Value.ownBlock] at e; omega⟩
          · exact ⟨by omega, by omega, by omega, fun _ e => by simp [Value.ownBlock] at e; omega⟩
          · have h1 := fv7 j hj
            have h2 := fv7' j hj
            exact ⟨by omega, by omega, by omega, fun _ e => by simp [Value.ownBlock] at e; omega⟩
        · have h1 := h.turn t (fun q => q) (fun q => q) (fun q => q)
          by_cases hal : M1 = M2
          · subst hal
            refine (note_old h1 a _ hsl k1).mono ?_
            rintro e w' ⟨rfl, G', t'⟩
            exact ⟨rfl, t'.mono (fun _ _ e => Or.inl e), 2, _, _, G', k1, k1⟩
          · refine (note_new h1 a _ hsl2 (k2 M2 hM2l (Ne.symm hal)) (by simp [maxLen]) v' [.string ⟨M1.toArray⟩] k5 (OW.turn_no t) (by simp)).mono ?_
            rintro e w' ⟨rfl, v2, ho, hv, G', t'⟩
            refine ⟨rfl, t', 3, _, _, G', ?_, has_put_same k4 (law86.key (recKey_of a _ hsl2)) _⟩
            rw [has_put_other (fun e => hal (by
              have := (recKey_inj hsl hsl2 e).2
              simpa using this))]
            exact k1
      have hck4 : ∀ W n DX D3, Reg W p br bt n DX D3 → has DX (recKey Tryd.prog a ⟨M2.toArray⟩) = true → Bs W (.slice (some ⟨gm, 0, none⟩) k k) M2 → Laid1 W → 2 ≤ W.heap.size → Calls Tryd.prog 14 #[.pointer (some ⟨p, 0, none⟩), .int .u64 a.toNat, .slice (some ⟨gm, 0, none⟩) k k, .agg YL.toArray] W (fun e w' => e = .returned (.bool true) ∧ Reg w' p br bt n DX D3 ∧ Turn (fun k => k = p) W w') := by
        intro W n DX D3 h hk b l h2
        rw [← hSh2.out]
        have := check_yes h a _ M2 b hmp (sealB a M2) hY1 hk l h2 (by omega) (by omega)
        rw [beq_self_eq_true] at this
        exact this
      have hck5 : ∀ W n DX D3, Reg W p br bt n DX D3 → has DX (recKey Tryd.prog a ⟨M1.toArray⟩) = true → Bs W (.slice a6 k c6) M1 → Laid1 W → 2 ≤ W.heap.size → Calls Tryd.prog 14 #[.pointer (some ⟨p, 0, none⟩), .int .u64 a.toNat, .slice a6 k c6, .agg XL.toArray] W (fun e w' => e = .returned (.bool true) ∧ Reg w' p br bt n DX D3 ∧ Turn (fun k => k = p) W w') := by
        intro W n DX D3 h hk b l h2
        rw [← hSh1.out]
        have := check_yes h a _ M1 b (fun _ e => by have := f6 _ e; omega) (sealB a M1) hX1 hk l h2 (by omega) (by omega)
        rw [beq_self_eq_true] at this
        exact this
      rw [show (sealB a M2).map bv = YL from hSh2.out] at hYl hYo
      simp only [show (sealB a M2).map bv = YL from hSh2.out] at hof2 heq33
      have hYs : YL.toArray.size = 16 := by simpa using hYl
      have hYi : (Tryd.prog.info? 33).map (·.size) = some YL.toArray.size := by simp [hYl, size33]
      have hYi' : (Tryd.prog.info? 33).map (·.size) = some YL.length := by rw [hYl]; exact size33
      clear hcy hof k2 k1 k4 k5 hSh1 hSh2 hbb hbb2 hne33 hsrc hsl hsl2
      go_wp2_with fail
      refine (hof2 ws Bs2 (hl0.turn Ts (fun q => q)) (by have := Ts.size; omega)).mono ?_
      rintro e wa ⟨rfl, ta⟩
      have Ta := Ts.then_no ta
      have Ga := Gs.turn ta (fun q => q) (fun q => q) (fun q => q)
      have sga : Sg wa q p a := Row.turn sgs ta (fun q => q)
      have Rma := Rms.turn ta (fun q => q)
      have Bfa := Bf.turn_no ta
      have B2a := Bs2.turn_no ta
      have Ova := Ovs.turn_no ta
      have Ra := Rs.turn ta (fun q => q)
      have sa := ta.size
      clear ta Gs sgs Rms Bf Bs2 Ovs Rs Ts cv1 cv2
      have h1 := hck2 wa _ Ga (hbs wa M2 hM2l Rma) (hl1.turn Ta (fun q => q)) (by have := Ta.size; omega)
      clear hck2
      go_wp2_with fail
      refine h1.mono ?_
      rintro e wb ⟨rfl, Gb, tb⟩
      have Tb : Turn no w wb := (Ta.of_no.trans tb (fun _ _ q => q)).mono (S := fun j => j = p) (fun i hi q => by omega)
      have sgb : Sg wb q p a := Row.turn sga tb (fun e => by omega)
      have Rmb := Rma.turn tb (fun e => by omega)
      have Bfb := Bfa.late tb (fun _ g hg e => by have := f6 g hg; omega)
      have B2b := B2a.late tb (fun _ g hg e => by have := fs g hg; omega)
      have Ovb := Ova.turn tb (fun g hg e => by have := fv7 g hg; omega)
      have Rb := Ra.turn tb (fun e => by omega)
      have sb := tb.size
      clear h1 tb Ga sga Rma Bfa B2a Ova Ra Ta
      have h1 := hck3 wb _ Gb (hbs wb M2 hM2l Rmb) (hl1.turn Tb (fun q => q)) (by have := Tb.size; omega)
      clear hck3
      go_wp2_with (refine wpList_load_row rfl 33 (.tmp 13) rfl g13 rfl 33 XL.toArray (0, 0) _ Rb hu rfl hXi ?_)
      refine h1.mono ?_
      rintro e wd ⟨rfl, Gd, td⟩
      have Td : Turn no w wd := (Tb.of_no.trans td (fun _ _ q => q)).mono (S := fun j => j = p) (fun i hi q => by omega)
      have sgd : Sg wd q p a := Row.turn sgb td (fun e => by omega)
      have Rmd := Rmb.turn td (fun e => by omega)
      have Bfd := Bfb.late td (fun _ g hg e => by have := f6 g hg; omega)
      have B2d := B2b.late td (fun _ g hg e => by have := fs g hg; omega)
      have Ovd := Ovb.turn td (fun g hg e => by have := fv7 g hg; omega)
      have Rd := Rb.turn td (fun e => by omega)
      have sd := td.size
      have hg13 : g13 < wd.heap.size := Rd.lt
      clear h1 td Gb sgb Rmb Bfb B2b Ovb Rb Tb
      have h1 := hsg2 wd Td hg13 Gd sgd Ovd (hbs wd M2 hM2l Rmd)
      clear hsg2
      generalize (M1 == M2) = al at *
      go_wp2_with fail
      refine h1.mono ?_
      rintro e we ⟨rfl, te, n, DX, D3, Ge, hd1, hd2⟩
      have hv4 : ∀ j, (j = p ∨ j = br ∨ j = bt ∨ v'.ownBlock = some j) → (j = p ∨ j = br ∨ j = bt) ∨ (w6.heap.size < j ∧ j < g13) := fun j hj => by
        rcases hj with hj | hj | hj | hj
        · exact Or.inl (Or.inl hj)
        · exact Or.inl (Or.inr (Or.inl hj))
        · exact Or.inl (Or.inr (Or.inr hj))
        · exact Or.inr ⟨fv7 j hj, fv7' j hj⟩
      have Te : Turn no w we := (Td.of_no.trans te (fun _ _ q => q)).mono (S := fun j => j = p ∨ j = br ∨ j = bt ∨ v'.ownBlock = some j) (fun i hi q => by have := hv4 i q; omega)
      have Rme := Rmd.turn te (fun q => by have := hv4 _ q; omega)
      have Bfe := Bfd.late te (fun _ g hg q => by have := hv4 _ q; have := f6 g hg; have := f6' g hg; omega)
      have B2e := B2d.late te (fun _ g hg q => by have := hv4 _ q; have := fs g hg; obtain ⟨d, hd⟩ := s8; omega)
      have Re := Rd.turn te (fun q => by have := hv4 _ q; omega)
      have se := te.size
      clear h1 te Gd sgd Rmd Bfd B2d Ovd Rd Td hv4
      have R19' : ∀ z, Row ((we.alloc (.cells z 33)).setRow we.heap.size YL.toArray) we.heap.size YL.toArray 33 := fun z => setRow_heap _ _ _ _ _ _ (heap_alloc_new we _)
      go_wp2_with (first | (refine wpList_store_row rfl 33 (.tmp 19) (.tmp 136) rfl we.heap.size YL.toArray rfl rfl 33 _ (heap_alloc_new we _) hYi (by rw [hYs]; kernel_rfl) hYo ?_) | (refine wpList_load_row rfl 33 (.tmp 19) rfl we.heap.size rfl 33 YL.toArray (0, 0) _ (R19' _) hu rfl hYi ?_))
      rw [World.setRow_alloc_new]
      have tf : Turn no we (we.alloc (.cells YL.toArray 33)) := (Turn.refl no we).alloc _
      have R19 := Row.new we YL.toArray 33
      have Tf := Te.then_no tf
      have Gf := Ge.turn tf (fun q => q) (fun q => q) (fun q => q)
      have Rmf := Rme.turn tf (fun q => q)
      have Bff := Bfe.turn_no tf
      have B2f := B2e.turn_no tf
      have Rf := Re.turn tf (fun q => q)
      have hpe : p < we.heap.size := Row.lt Ge.row
      clear R19' tf Ge Rme Bfe B2e Re Te
      generalize we.alloc (.cells YL.toArray 33) = wf at *
      generalize we.heap.size = g19 at *
      have h1 := hck4 wf n DX D3 Gf hd2 (hbs wf M2 hM2l Rmf) (hl1.turn Tf (fun q => q)) (by have := Tf.size; omega)
      clear hck4
      refine h1.mono ?_
      rintro e wg ⟨rfl, Gg, tg⟩
      have Tg : Turn no w wg := (Tf.of_no.trans tg (fun _ _ q => q)).mono (S := fun j => j = p) (fun i hi q => by omega)
      have Bfg := Bff.late tg (fun _ g hg e => by have := f6 g hg; omega)
      have B2g := B2f.late tg (fun _ g hg e => by have := fs g hg; omega)
      have Rg := Rf.turn tg (fun e => by omega)
      have R19g := R19.turn tg (fun e => by omega)
      clear h1 tg Gf Rmf Bff B2f Rf Tf R19
      have h1 := hck5 wg n DX D3 Gg hd1 Bfg (hl1.turn Tg (fun q => q)) (by have := Tg.size; omega)
      clear hck5
      go_wp2_with (refine wpList_load_row rfl 33 (.tmp 13) rfl g13 rfl 33 XL.toArray (0, 0) _ Rg hu rfl hXi ?_)
      refine h1.mono ?_
      rintro e wh ⟨rfl, Gh, th⟩
      have Th : Turn no w wh := (Tg.of_no.trans th (fun _ _ q => q)).mono (S := fun j => j = p) (fun i hi q => by omega)
      have B2h := B2g.late th (fun _ g hg e => by have := fs g hg; omega)
      have R19h := R19g.turn th (fun e => by omega)
      clear h1 th Gg Bfg B2g Rg Tg R19g
      go_wp2_with fail
      refine wp_region_held_drew (S := fun W => Turn no wh W) (by kernel_rfl) (Turn.refl _ wh).drew (fun hHeld => ?_)
      refine' wpAnyH_take (i := 0) (v := .int .i64 0) rfl (by kernel_rfl) (by kernel_rfl) (by kernel_rfl) (fun _ _ _ h => h) (Or.inl ⟨by kernel_rfl, fun W hW => ?y11⟩) hHeld ?r11
      · go_simp
      refine wpAnyH_ready (rs := [1]) (by kernel_rfl) (by simp) ?_
      refine AllReadyH.cons rfl (fun K hK => ?_) AllReadyH.nil
      go_simp
      refine (num11 _ _).mono ?_
      rintro e w10 ⟨rfl, he10⟩
      go_wp2_with fail
      subst he10
      refine hK.out _ _ hHeld (fun hHeld => ?_)
      clear hK
      refine' wpAnyH_take (i := 2) (v := .bool true) rfl (by kernel_rfl) (by kernel_rfl) (by kernel_rfl) (fun _ _ _ h => h) (Or.inl ⟨by kernel_rfl, fun W hW => ?y12⟩) hHeld ?r12
      · go_simp
      refine' wpAnyH_take (i := 3) (v := .bool true) rfl (by kernel_rfl) (by kernel_rfl) (by kernel_rfl) (fun _ _ _ h => h) (Or.inl ⟨by kernel_rfl, fun W hW => ?y13⟩) hHeld ?r13
      · go_simp
      refine' wpAnyH_take (i := 4) (v := _) rfl (by kernel_rfl) (by kernel_rfl) (by kernel_rfl) (fun _ _ _ h => h) (yieldsIf_load_mid (by kernel_rfl) _ _ rfl _ _ rfl YL _ (fun W h => (R19h.turn h (fun q => q)).range) hu rfl hYi') hHeld ?rl5
      refine' wpAnyH_take (i := 5) (v := .int .u64 a.toNat) rfl (by kernel_rfl) (by kernel_rfl) (by kernel_rfl) (fun _ _ _ h => h) (Or.inl ⟨by kernel_rfl, fun W hW => ?y14⟩) hHeld ?r14
      · go_simp
      refine' wpAnyH_take (i := 6) (v := .slice a16 k c16) rfl (by kernel_rfl) (by kernel_rfl) (by kernel_rfl) (fun _ _ _ h => h) (Or.inl ⟨by kernel_rfl, fun W hW => ?y15⟩) hHeld ?r15
      · go_simp
      refine wpAnyH_ready (rs := [7]) (by kernel_rfl) (by simp) ?_
      refine AllReadyH.cons rfl (fun K hK => ?_) AllReadyH.nil
      go_simp
      refine (hof2 _ (B2h.turn_no (Turn.refl no wh).drew) (hl0.turn Th.drew (fun q => q)) (by have := Th.drew.size; omega)).mono ?_
      rintro e wi ⟨rfl, ti⟩
      have ti' : Turn no wh wi := (Turn.refl no wh).drew.then_no ti
      go_wp2_with fail
      refine hK.out _ _ ti' (fun hHeld => ?_)
      clear hK
      refine' wpAnyH_take (i := 8) (v := .bool true) rfl (by kernel_rfl) (by kernel_rfl) (by kernel_rfl) (fun _ _ _ h => h) (Or.inl ⟨by kernel_rfl, fun W hW => ?y16⟩) hHeld ?r16
      · go_simp
      refine' wpAnyH_take (i := 9) (v := .bool true) rfl (by kernel_rfl) (by kernel_rfl) (by kernel_rfl) (fun _ _ _ h => h) (Or.inl ⟨by kernel_rfl, fun W hW => ?y17⟩) hHeld ?r17
      · go_simp
      refine' wpAnyH_take (i := 10) (v := .bool true) rfl (by kernel_rfl) (by kernel_rfl) (by kernel_rfl) (fun _ _ _ h => h) (Or.inl ⟨by kernel_rfl, fun W hW => ?y18⟩) hHeld ?r18
      · go_simp
      refine' wpAnyH_take (i := 11) (v := .bool true) rfl (by kernel_rfl) (by kernel_rfl) (by kernel_rfl) (fun _ _ _ h => h) (Or.inl ⟨by kernel_rfl, fun W hW => ?y19⟩) hHeld ?r19
      · go_simp
      refine' wpAnyH_take (i := 12) (v := .bool true) rfl (by kernel_rfl) (by kernel_rfl) (by kernel_rfl) (fun _ _ _ h => h) (Or.inl ⟨by kernel_rfl, fun W hW => ?y20⟩) hHeld ?r20
      · go_simp
      refine' wpAnyH_take (i := 13) (v := .bool true) rfl (by kernel_rfl) (by kernel_rfl) (by kernel_rfl) (fun _ _ _ h => h) (Or.inl ⟨by kernel_rfl, fun W hW => ?y21⟩) hHeld ?r21
      · go_simp
      refine' wpAnyH_take (i := 14) (v := .bool true) rfl (by kernel_rfl) (by kernel_rfl) (by kernel_rfl) (fun _ _ _ h => h) (Or.inl ⟨by kernel_rfl, fun W hW => ?y22⟩) hHeld ?r22
      · go_simp
      refine' wpAnyH_take (i := 15) (v := .bool true) rfl (by kernel_rfl) (by kernel_rfl) (by kernel_rfl) (fun _ _ _ h => h) (Or.inl ⟨by kernel_rfl, fun W hW => ?y23⟩) hHeld ?r23
      · go_simp
      refine wpAnyH_ready (rs := [16]) (by kernel_rfl) (by simp) ?_
      refine AllReadyH.cons rfl (fun K hK => ?_) AllReadyH.nil
      go_simp
      refine hK.out _ _ hHeld (fun hHeld => ?_)
      clear hK
      refine wpAnyH_done (by kernel_rfl) ?_ _
      go_wp2_with fail
      go_ret
      exact ⟨rfl, Th.then_no ti'⟩
end Go.Proofs.YtnlcngcilojnkaaDoor
