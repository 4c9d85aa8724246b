/- The walk of SealStrange. -/
import Derived.Test.YtnlcngcilojnkaaDoorS8
namespace Go.Proofs.YtnlcngcilojnkaaDoor
open Go.RowKit Go.Maps Go.MuLone
set_option linter.unusedVariables false

theorem num11 (w : World) (e : Int) : Calls Tryd.prog 11 #[.int .i64 e] w fun r w' => r = .returned (.int .i64 e) ∧ w' = w := by
  go_enter Tryd.func11, Tryd.ntmps11
  go_wp2_with fail
  go_ret
  exact ⟨rfl, rfl⟩

/-- The law's argument. -/
def inC (a b : UInt64) (va : Value) (XL : List Value) : List Value := .int .u64 a.toNat :: .int .u64 b.toNat :: va :: XL
theorem inC_range {w : World} {g : Nat} {a b : UInt64} {va : Value} {XL : List Value} (h : Row w g (inC a b va XL).toArray 40) : w.rangeAt g 3 XL := fun j v hv => by
  have := h.cell (3 + j) v (by simp [inC, Nat.add_comm 3 j, hv])
  exact this

/-- A script of the law's beginning. -/
theorem has_none (k : Lit) : has (.map [] : DataW Value) k = false := rfl

theorem enter_zero' {w : World} {p br bt n : Nat} {D1 D2 : DataW Value} (h : Reg w p br bt n D1 D2) (a : UInt64) (ha : (a.toNat : Int) = 0) : Calls Tryd.prog 10 #[.pointer (some ⟨p, 0, none⟩), .int .u64 a.toNat] w fun e w' => e = .returned (.tuple #[.pointer none, .int .i64 2]) ∧ w' = w := by
  rw [ha]
  exact enter_zero h

set_option maxRecDepth 100000 in
set_option maxHeartbeats 4000000 in
theorem strange_any (w : World) (a b : UInt64) (va : Value) (bs : List UInt8) (hb : Bs w va bs) (X : List UInt8) (hx : X.length = 16) (hl : Laid1 w) (h2 : 2 ≤ w.heap.size) :
    Calls Tryd.prog 4 #[.agg (inC a b va (X.map bv)).toArray] w fun e w' => e = .returned (.bool true) ∧ Turn no w w' := by
  have hXl : (X.map bv).length = 16 := by simpa using hx
  have hck := fun W p br bt n D2 (h : Reg W p br bt n (.map []) D2) (hb : Bs W va bs) hbp => check_no h a va bs hb hbp X hx (has_none _)
  have hXo : (X.map bv).toArray.all (·.oneCell') = true := by
    rw [List.all_toArray]
    exact List.all_eq_true.2 (fun x hx => bv_one X x hx)
  generalize X.map bv = XL at *
  have T0 : Turn no w (w.alloc (.cells (inC a b va XL).toArray 40)) := (Turn.refl no w).alloc _
  have RI := Row.new w (inC a b va XL).toArray 40
  have c0 : (w.alloc (.cells (inC a b va XL).toArray 40)).cell? ⟨w.heap.size, 0, none⟩ = some (.int .u64 a.toNat) := RI.cell 0 _ rfl
  have c1 : (w.alloc (.cells (inC a b va XL).toArray 40)).cell? ⟨w.heap.size, 1, none⟩ = some (.int .u64 b.toNat) := RI.cell 1 _ rfl
  have c2 : (w.alloc (.cells (inC a b va XL).toArray 40)).cell? ⟨w.heap.size, 2, none⟩ = some va := RI.cell 2 _ rfl
  have R3 := inC_range RI
  have hu := Tryd.underlying33
  have hi : (Tryd.prog.info? 33).map (·.size) = some XL.length := by rw [hXl]; exact size33
  obtain ⟨va', vc, hva⟩ := hb.slice
  subst hva
  generalize (inC a b (.slice va' bs.length vc) XL).toArray = IV at *
  go_enter Tryd.func4, Tryd.ntmps4
  go_wp2_with fail
  generalize w.alloc (.cells IV 40) = w1 at *
  generalize hgs : w.heap.size = g at *
  refine wp_region_held_drew (S := fun W => Turn no w1 W) (by kernel_rfl) (Turn.refl _ w1).drew (fun hHeld => ?_)
  refine' wpAnyH_take (i := 0) (v := .pointer (some ⟨g, 0, none⟩)) rfl (by kernel_rfl) (by kernel_rfl) (by kernel_rfl) (fun _ _ _ h => h) (Or.inl ⟨by rfl, fun W hW => ?y1⟩) hHeld ?r1
  · go_simp
  refine' wpAnyH_take (i := 1) (v := .int .u64 a.toNat) rfl (by kernel_rfl) (by kernel_rfl) (by kernel_rfl) (fun _ _ _ h => h) (Or.inl ⟨by rfl, fun W hW => ?y2⟩) hHeld ?r2
  · have c := hW.keep c0 (fun q => q)
    go_simp
  refine' wpAnyH_take (i := 2) (v := .pointer (some ⟨g, 1, none⟩)) rfl (by kernel_rfl) (by kernel_rfl) (by kernel_rfl) (fun _ _ _ h => h) (Or.inl ⟨by rfl, fun W hW => ?y3⟩) hHeld ?r3
  · go_simp
  refine' wpAnyH_take (i := 3) (v := .int .u64 b.toNat) rfl (by kernel_rfl) (by kernel_rfl) (by kernel_rfl) (fun _ _ _ h => h) (Or.inl ⟨by rfl, fun W hW => ?y4⟩) hHeld ?r4
  · have c := hW.keep c1 (fun q => q)
    go_simp
  refine' wpAnyH_take (i := 4) (v := .pointer (some ⟨g, 2, none⟩)) rfl (by kernel_rfl) (by kernel_rfl) (by kernel_rfl) (fun _ _ _ h => h) (Or.inl ⟨by rfl, fun W hW => ?y5⟩) hHeld ?r5
  · go_simp
  refine' wpAnyH_take (i := 5) (v := .slice va' bs.length vc) rfl (by kernel_rfl) (by kernel_rfl) (by kernel_rfl) (fun _ _ _ h => h) (Or.inl ⟨by rfl, fun W hW => ?y6⟩) hHeld ?r6
  · have c := hW.keep c2 (fun q => q)
    go_simp
  refine' wpAnyH_take (i := 6) (v := .pointer (some ⟨g, 3, none⟩)) rfl (by kernel_rfl) (by kernel_rfl) (by kernel_rfl) (fun _ _ _ h => h) (Or.inl ⟨by rfl, fun W hW => ?y7⟩) hHeld ?r7
  · go_simp
  refine' wpAnyH_take (i := 7) (v := _) rfl (by kernel_rfl) (by kernel_rfl) (by kernel_rfl) (fun _ _ _ h => h) (yieldsIf_load_mid (by rfl) _ _ rfl _ _ rfl XL _ (fun W h => fun j v hv => h.keep (R3 j v hv) (fun q => q)) hu rfl hi) hHeld ?rl
  obtain ⟨z16, hz16, hz16s⟩ : ∃ z16 : Array Value, z16 = #[.int .u8 0, .int .u8 0, .int .u8 0, .int .u8 0, .int .u8 0, .int .u8 0, .int .u8 0, .int .u8 0, .int .u8 0, .int .u8 0, .int .u8 0, .int .u8 0, .int .u8 0, .int .u8 0, .int .u8 0, .int .u8 0] ∧ z16.size = 16 := ⟨_, rfl, rfl⟩
  refine wpAnyH_ready (rs := [8]) (by kernel_rfl) (by simp) ?_
  refine AllReadyH.cons rfl (fun K hK => ?_) AllReadyH.nil
  go_simp
  rw [← hz16]
  refine hK.out _ _ ((Turn.refl no w1).alloc _).drew (fun hHeld => ?_)
  clear hK
  have R6 : Row (w1.alloc (.cells z16 33)).drew w1.heap.size z16 33 := Row.new w1 _ 33
  have hw1 := T0.size
  have hg1 : g < w1.heap.size := World.block_lt_of_cell? _ _ c0
  generalize (w1.alloc (.cells z16 33)).drew = w2 at *
  generalize hg6 : w1.heap.size = g6 at *
  refine wpAnyH_ready (rs := [9]) (by kernel_rfl) (by simp) ?_
  refine AllReadyH.cons rfl (fun K hK => ?_) AllReadyH.nil
  go_simp
  refine hK.out _ _ hHeld (fun hHeld => ?_)
  clear hK
  refine wpAnyH_ready (rs := [10]) (by kernel_rfl) (by simp) ?_
  refine AllReadyH.cons rfl (fun K hK => ?_) AllReadyH.nil
  go_simp
  refine hK.out _ _ hHeld (fun hHeld => ?_)
  clear hK
  refine wpAnyH_ready (rs := [11]) (by kernel_rfl) (by simp) ?_
  refine AllReadyH.cons rfl (fun K hK => ?_) AllReadyH.nil
  go_simp
  refine hK.out _ _ hHeld (fun hHeld => ?_)
  clear hK
  refine wpAnyH_ready (rs := [12]) (by kernel_rfl) (by simp) ?_
  refine AllReadyH.cons rfl (fun K hK => ?_) AllReadyH.nil
  rw [if_pos (by rfl)]
  refine wp_store_row 33 _ _ rfl g6 XL.toArray rfl rfl 33 z16 R6 (by rw [hi]; simp) (by simp [hXl, hz16s]) hXo ?_
  have R6' : Row (w2.setRow g6 XL.toArray) g6 XL.toArray 33 := setRow_heap _ _ _ _ _ _ R6
  have T2 : Turn no w1 (w2.setRow g6 XL.toArray) := hHeld.setRow _ _ (fun q => by omega)
  refine hK.out _ _ T2 (fun hHeld => ?_)
  clear hK
  refine wpAnyH_done (by kernel_rfl) ?_ _
  have T3 := T0.then_no T2
  clear R6 T2 T0 hHeld RI R3 c0 c1 c2
  generalize w2.setRow g6 XL.toArray = w3 at *
  have hb3 := hb.turn_no T3
  have hi' : (Tryd.prog.info? 33).map (·.size) = some XL.toArray.size := by rw [hi]; simp
  have hbo : ∀ k, g ≤ k → bs ≠ [] → (Value.slice va' bs.length vc).ownBlock ≠ some k := fun k hk hne e => by have := hb.old hne k e; omega
  clear hXo hi hXl hx X
  generalize XL.toArray = XV at *
  go_wp2_with fail
  refine (new9 _).mono ?_
  rintro e w4 ⟨p, br, bt, rfl, hp, hr, ht, G4, t4⟩
  have T4 := T3.then_no t4
  have R64 := R6'.turn t4 (fun q => q)
  have hg63 : g6 < w3.heap.size := R6'.lt

  have hk1 := hck w4 p br bt 0 _ G4 (hb3.turn_no t4) (hbo p (by omega))
  go_wp2_with (refine wpList_load_row rfl 33 (.tmp 6) rfl g6 rfl 33 XV (0, 0) _ R64 hu rfl hi' ?_)
  refine hk1.mono ?_
  rintro e w5 ⟨rfl, G5, t5⟩
  have T5 : Turn no w w5 := (T4.of_no.trans t5 (fun _ _ q => q)).mono (S := fun k => k = p) (fun i hi q => by omega)
  have R65 := R64.turn t5 (fun q => by omega)
  have s4 := t4.size
  have s5 := t5.size
  have hb5 := hb.turn_no T5
  have hp2 : 2 ≤ p ∧ 2 ≤ br ∧ 2 ≤ bt := ⟨by omega, by omega, by omega⟩
  have hpl : p < w5.heap.size := Row.lt G5.row
  have hrl : br < w5.heap.size := G5.recs.lt
  have htl : bt < w5.heap.size := G5.texts.lt
  clear hk1 T3 T4 t4 t5 R64 R6' hb3 G4
  by_cases ha : (a.toNat : Int) = 0
  · have he := enter_zero G5
    have hk2 := hck w5 p br bt 0 _ G5 hb5 (hbo p (by omega))
    rw [ha] at hk2
    go_wp2_with fail
    refine he.mono ?_
    rintro e w6 ⟨rfl, he6⟩
    subst he6
    go_wp2_with (refine wpList_load_row rfl 33 (.tmp 6) rfl g6 rfl 33 XV (0, 0) _ R65 hu rfl hi' ?_)
    refine hk2.mono ?_
    rintro e w7 ⟨rfl, G7, t7⟩
    have hkn := known15 G7 a
    rw [has_none, ha] at hkn
    have T7 : Turn no w w7 := (T5.of_no.trans t7 (fun _ _ q => q)).mono (S := fun k => k = p) (fun i hi q => by omega)
    clear hck hk2 he
    go_wp2_with fail
    refine (num11 _ _).mono ?_
    rintro e w8 ⟨rfl, he8⟩
    subst he8
    go_wp2_with fail
    refine hkn.mono ?_
    rintro e w8 ⟨rfl, G8, t8⟩
    have hct := count13 G8
    have T8 : Turn no w w8 := (T7.of_no.trans t8 (fun _ _ q => q)).mono (S := fun k => k = p) (fun i hi q => by omega)
    go_wp2_with fail
    refine hct.mono ?_
    rintro e w9 ⟨rfl, G9, t9⟩
    have T9 : Turn no w w9 := (T8.of_no.trans t9 (fun _ _ q => q)).mono (S := fun k => k = p) (fun i hi q => by omega)
    have hs0 : size (.map [] : DataW Value) = 0 := rfl
    go_wp2_with fail
    go_ret
    exact ⟨rfl, T9⟩
  · have he := enter_new G5 a ha (has_none _) (by simp [maxLen])
    have hz1 : ((a.toNat : Int) == 0) = false := by simpa using ha
    have hz2 : ((a.toNat : Int) != 0) = true := by simpa using ha
    have hz3 : ¬ a.toNat = 0 := by omega
    go_wp2_with fail
    refine he.mono ?_
    rintro e w6 ⟨q, rfl, hq, sg, G6, t6⟩
    have D2e : has ((.map [] : DataW Value).put (adKey a) (.held (.slice none 0 0))) (adKey a) = true := has_put_same isMap_empty (law29.key (adKey_of a)) _
    have D2a : ((.map [] : DataW Value).put (adKey a) (.held (.slice none 0 0))).atKey (adKey a) (.held (.slice none 0 0)) = .held (.slice none 0 0) := atKey_put_same isMap_empty (law29.key (adKey_of a)) _ _
    generalize (.map [] : DataW Value).put (adKey a) (.held (.slice none 0 0)) = DA at *
    have T6 : Turn no w w6 := (T5.of_no.trans t6 (fun _ _ q => q)).mono (S := fun k => k = p ∨ k = bt) (fun i hi q => by omega)
    have R66 := R65.turn t6 (fun q => by omega)
    have hk2 := hck w6 p br bt 1 _ G6 (hb.turn_no T6) (hbo p (by omega))
    clear he hck G5 R65 t6
    go_wp2_with (refine wpList_load_row rfl 33 (.tmp 6) rfl g6 rfl 33 XV (0, 0) _ R66 hu rfl hi' ?_)
    refine hk2.mono ?_
    rintro e w7 ⟨rfl, G7, t7⟩
    have T7 : Turn no w w7 := (T6.of_no.trans t7 (fun _ _ q => q)).mono (S := fun k => k = p) (fun i hi q => by omega)
    have sg7 : Sg w7 q p a := Row.turn sg t7 (fun e => by omega)
    have hkn := known15 G7 a
    rw [D2e] at hkn
    clear hk2 R66 sg G6 t7
    go_wp2_with fail
    refine (num11 _ _).mono ?_
    rintro e w8 ⟨rfl, he8⟩
    subst he8
    go_wp2_with fail
    refine hkn.mono ?_
    rintro e w8 ⟨rfl, G8, t8⟩
    have T8 : Turn no w w8 := (T7.of_no.trans t8 (fun _ _ q => q)).mono (S := fun k => k = p) (fun i hi q => by omega)
    have sg8 : Sg w8 q p a := Row.turn sg7 t8 (fun e => by omega)
    clear hkn G7 t8 sg7
    by_cases hlen : (1048576 : Int) < (bs.length : Int)
    · have hct := count13 G8
      go_wp2_with fail
      refine hct.mono ?_
      rintro e w9 ⟨rfl, G9, t9⟩
      have T9 : Turn no w w9 := (T8.of_no.trans t9 (fun _ _ q => q)).mono (S := fun k => k = p) (fun i hi q => by omega)
      have hs0 : size (.map [] : DataW Value) = 0 := rfl
      go_wp2_with fail
      go_ret
      exact ⟨rfl, T9⟩
    · have hsl : (⟨bs.toArray⟩ : ByteArray).size ≤ maxLen := by have := hb.le; simpa [ByteArray.size] using this
      have hb8 := hb.turn_no T8
      have s8 := T8.size
      have hp8 : p < w8.heap.size := Row.lt G8.row
      have hr8 : br < w8.heap.size := G8.recs.lt
      have ht8 : bt < w8.heap.size := G8.texts.lt
      have hsg := sign12 w8 q p a (.slice va' bs.length vc) bs sg8 G8.c0 hb8 (hl.turn T8 (fun q => q)) (by omega) (by omega)
        (fun k => k = p ∨ k = br ∨ k = bt) (fun W => ∃ D3, Reg W p br bt 2 ((.map [] : DataW Value).put (recKey Tryd.prog a ⟨bs.toArray⟩) (.agg [])) D3)
        (fun k hk => by
          refine ⟨by omega, by omega, by omega, hbo k (by omega)⟩)
        (fun W W' ⟨D3, h⟩ t => ⟨D3, h.turn t (fun e => by omega) (fun e => by omega) (fun e => by omega)⟩)
        (fun W t => (note_new (G8.turn t (fun q => q) (fun q => q) (fun q => q)) a ⟨bs.toArray⟩ hsl (has_none _) (by simp [maxLen]) (.slice none 0 0) [] D2a (Own.nil W 9) (by simp)).mono (by
          rintro e w' ⟨rfl, v', ho, hv, G, t'⟩
          refine ⟨rfl, t'.mono (fun i hi q => ?_), _, G⟩
          rcases q with q | q | q | q
          · exact Or.inl q
          · exact Or.inr (Or.inl q)
          · exact Or.inr (Or.inr q)
          · cases q))
      have k1 : has ((.map [] : DataW Value).put (recKey Tryd.prog a ⟨bs.toArray⟩) (.agg [])) (recKey Tryd.prog a ⟨bs.toArray⟩) = true := has_put_same isMap_empty (law86.key (recKey_of a _ hsl)) _
      have k2 : ¬ a = b → has ((.map [] : DataW Value).put (recKey Tryd.prog a ⟨bs.toArray⟩) (.agg [])) (recKey Tryd.prog b ⟨bs.toArray⟩) = false := fun hab => by
        rw [has_put_other (fun e => hab (recKey_inj hsl hsl e).1.symm)]
        rfl
      have k3 : size ((.map [] : DataW Value).put (recKey Tryd.prog a ⟨bs.toArray⟩) (.agg [])) = 1 := by
        rw [size_put tidy_empty, has_none]
        rfl
      generalize (.map [] : DataW Value).put (recKey Tryd.prog a ⟨bs.toArray⟩) (.agg []) = DR at *
      clear D2e D2a
      have hSo := sealV_one a bs
      have hSs := sealV_size a bs
      have hSi : (Tryd.prog.info? 33).map (·.size) = some (sealV a bs).size := by rw [hSs]; exact size33
      have hSz : sealV a bs = ((sealB a bs).map bv).toArray := rfl
      have hSl := sealB_len a bs
      have hbb : (sealB a bs == sealB a bs) = true := by simp
      have hcy := fun W D3 (h : Reg W p br bt 2 DR D3) (b : Bs W (.slice va' bs.length vc) bs) l h2 => check_yes h a _ bs b (hbo p (by omega)) (sealB a bs) hSl k1 l h2 (by omega) (by omega)
      have hcn := fun (hab : ¬ a = b) W D3 (h : Reg W p br bt 2 DR D3) (b' : Bs W (.slice va' bs.length vc) bs) => check_no h b _ bs b' (hbo p (by omega)) (sealB a bs) hSl (k2 hab)
      rw [hbb] at hcy
      rw [← hSz] at hcy hcn
      generalize sealV a bs = SV at *
      clear hSz hSl hbb G8 k1 k2
      go_wp2_with fail
      refine hsg.mono ?_
      rintro e w9 ⟨rfl, t9, D3, G9⟩
      have T9 : Turn no w w9 := (T8.of_no.trans t9 (fun _ _ q => q)).mono (S := fun k => k = p ∨ k = br ∨ k = bt) (fun i hi q => by omega)
      have sg9 : Sg w9 q p a := Row.turn sg8 t9 (fun e => by omega)
      clear hsg
      have R10' : ∀ z, Row ((w9.alloc (.cells z 33)).setRow w9.heap.size SV) w9.heap.size SV 33 := fun z => setRow_heap _ _ _ _ _ _ (heap_alloc_new w9 _)
      go_wp2_with (first | (refine wpList_store_row rfl 33 (.tmp 12) (.tmp 84) rfl w9.heap.size SV rfl rfl 33 _ (heap_alloc_new w9 _) hSi (by rw [hSs]; kernel_rfl) hSo ?_) | (refine wpList_load_row rfl 33 (.tmp 12) rfl w9.heap.size rfl 33 SV (0, 0) _ (R10' _) hu rfl hSi ?_))
      rw [World.setRow_alloc_new]
      have R10 := Row.new w9 SV 33
      have t10 : Turn no w9 (w9.alloc (.cells SV 33)) := (Turn.refl no w9).alloc _
      have T10 := T9.then_no t10
      have G10 := G9.turn t10 (fun q => q) (fun q => q) (fun q => q)
      have sg10 : Sg _ q p a := Row.turn sg9 t10 (fun q => q)
      have s9 := T9.size
      have hp9 : p < w9.heap.size := Row.lt G9.row
      have hq9 : q < w9.heap.size := Row.lt sg9
      clear G9 sg9 sg8 t9 t10 R10'
      generalize w9.alloc (.cells SV 33) = w10 at *
      generalize w9.heap.size = g12 at *
      have hc1 := hcy w10 D3 G10 (hb.turn_no T10) (hl.turn T10 (fun q => q)) (by have := T10.size; omega)
      refine hc1.mono ?_
      rintro e w11 ⟨rfl, G11, t11⟩
      have T11 : Turn no w w11 := (T10.of_no.trans t11 (fun _ _ q => q)).mono (S := fun k => k = p) (fun i hi q => by omega)
      have R11 := R10.turn t11 (fun e => by omega)
      have sg11 : Sg w11 q p a := Row.turn sg10 t11 (fun e => by omega)
      clear hc1 G10 R10 sg10 t11
      by_cases hab : a = b
      · subst hab
        have hc2 := hcy w11 D3 G11 (hb.turn_no T11) (hl.turn T11 (fun q => q)) (by have := T11.size; omega)
        clear hcy hcn
        go_wp2_with (refine wpList_load_row rfl 33 (.tmp 12) rfl g12 rfl 33 SV (0, 0) _ R11 hu rfl hSi ?_)
        refine hc2.mono ?_
        rintro e w12 ⟨rfl, G12, t12⟩
        have T12 : Turn no w w12 := (T11.of_no.trans t12 (fun _ _ q => q)).mono (S := fun k => k = p) (fun i hi q => by omega)
        have sg12 : Sg w12 q p a := Row.turn sg11 t12 (fun e => by omega)
        have had := addr16 w12 q p a sg12
        have hct := count13 G12
        rw [k3] at hct
        clear hc2 sg11 G11 R11
        go_wp2_with fail
        refine (num11 _ _).mono ?_
        rintro e w13 ⟨rfl, he13⟩
        subst he13
        go_wp2_with fail
        refine had.mono ?_
        rintro e w13 ⟨rfl, he13⟩
        subst he13
        go_wp2_with fail
        refine hct.mono ?_
        rintro e w14 ⟨rfl, G14, t14⟩
        have T14 : Turn no w w14 := (T12.of_no.trans t14 (fun _ _ q => q)).mono (S := fun k => k = p) (fun i hi q => by omega)
        go_wp2_with fail
        go_ret
        exact ⟨rfl, T14⟩
      · have hab' : ¬ (a.toNat : Int) = (b.toNat : Int) := fun e => hab (UInt64.toNat_inj.1 (by omega))
        have hab2 : ((a.toNat : Int) == (b.toNat : Int)) = false := by simpa using hab'
        have hc2 := hcn hab w11 D3 G11 (hb.turn_no T11)
        clear hcy hcn
        go_wp2_with (refine wpList_load_row rfl 33 (.tmp 12) rfl g12 rfl 33 SV (0, 0) _ R11 hu rfl hSi ?_)
        refine hc2.mono ?_
        rintro e w12 ⟨rfl, G12, t12⟩
        have T12 : Turn no w w12 := (T11.of_no.trans t12 (fun _ _ q => q)).mono (S := fun k => k = p) (fun i hi q => by omega)
        have sg12 : Sg w12 q p a := Row.turn sg11 t12 (fun e => by omega)
        have had := addr16 w12 q p a sg12
        have hct := count13 G12
        rw [k3] at hct
        clear hc2 sg11 G11 R11
        go_wp2_with fail
        refine (num11 _ _).mono ?_
        rintro e w13 ⟨rfl, he13⟩
        subst he13
        go_wp2_with fail
        refine had.mono ?_
        rintro e w13 ⟨rfl, he13⟩
        subst he13
        go_wp2_with fail
        refine hct.mono ?_
        rintro e w14 ⟨rfl, G14, t14⟩
        have T14 : Turn no w w14 := (T12.of_no.trans t14 (fun _ _ q => q)).mono (S := fun k => k = p) (fun i hi q => by omega)
        go_wp2_with fail
        go_ret
        exact ⟨rfl, T14⟩
end Go.Proofs.YtnlcngcilojnkaaDoor
