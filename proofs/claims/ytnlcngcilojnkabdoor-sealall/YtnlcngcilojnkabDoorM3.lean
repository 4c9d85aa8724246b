/- shown: the seal that Check is shown. -/
import Derived.Test.YtnlcngcilojnkabDoorG1
import Derived.Test.YtnlcngcilojnkabDoorB1
import Derived.Test.YtnlcngcilojnkabDoorO2
import Derived.Test.YtnlcngcilojnkabDoorA0
namespace Go.Proofs.YtnlcngcilojnkabDoor
open Go.RowKit Go.Maps Go.MuLone
set_option linter.unusedVariables false

/-- The boxed op. -/
structure Bo (w : World) (g : Nat) (x : Opx) : Prop where
  row : Row w g (opC x).toArray 33
  kind : w.cell? ⟨g, 0, none⟩ = some (.int .i64 x.kind)
  who : w.cell? ⟨g, 1, none⟩ = some (.int .i64 x.who)
  pos : w.cell? ⟨g, 2, none⟩ = some (.int .i64 x.pos)
  a : w.cell? ⟨g, 3, none⟩ = some (.int .u64 x.a.toNat)
  va : w.cell? ⟨g, 4, none⟩ = some x.va
  tw : w.cell? ⟨g, 21, none⟩ = some (.int .i64 x.tw)
  lg : w.cell? ⟨g, 22, none⟩ = some (.bool x.lg)
  X : w.rangeAt g 5 (x.X.map bv)
theorem Bo.of {w : World} {g : Nat} {x : Opx} (hx : x.ok) (h : Row w g (opC x).toArray 33) : Bo w g x :=
  ⟨h, h.cell 0 _ (opC_kind x), h.cell 1 _ (opC_who x), h.cell 2 _ (opC_pos x), h.cell 3 _ (opC_a x), h.cell 4 _ (opC_va x), h.cell 21 _ (opC_tw hx), h.cell 22 _ (opC_lg hx), fun j u hu => h.cell (5 + j) _ (opC_X hx j u hu)⟩
theorem size31L {X : List UInt8} (h : X.length = 16) : (Tryd.prog.info? 31).map (·.size) = some (X.map bv).toArray.size := by rw [size31z]; simp [h]; rfl
theorem one31L (X : List UInt8) : (X.map bv).toArray.all (·.oneCell') = true := by simp [bv, Value.oneCell']
theorem book_row {w : World} {vq : Value} {Q : List (List UInt8)} (hb : OwnN w 31 16 vq Q.length (Q.flatMap (·.map bv))) (he : ∀ x ∈ Q, x.length = 16) {j : Nat} {x : List UInt8} (hx : Q[j]? = some x) : ∃ g cap, vq = .slice (some ⟨g, 0, none⟩) Q.length cap ∧ w.rangeAt g (j * 16) (x.map bv) := by
  rcases hb.2 with ⟨rfl, h1⟩ | ⟨g, cap, cur, rfl, _, hg, h1, h2, h3, h4⟩
  · have := (List.getElem?_eq_some_iff.1 hx).1; omega
  · refine ⟨g, cap, rfl, fun i u hu => ?_⟩
    have hj := (List.getElem?_eq_some_iff.1 hx).1
    have hxl : (x.map bv).length = 16 := by simp [he x (List.mem_of_getElem? hx)]
    have hi : i < 16 := by have := (List.getElem?_eq_some_iff.1 hu).1; omega
    rw [cell_of_row w g (j * 16 + i) cur 31 (0, 0) hg]
    have hlen : ∀ l : List (List UInt8), (∀ y ∈ l, y.length = 16) → ∀ (j i : Nat) (x : List UInt8), l[j]? = some x → i < 16 → (l.flatMap (·.map bv))[j * 16 + i]? = (x.map bv)[i]? := by
      intro l
      induction l with
      | nil => intro _ j i x hx; simp at hx
      | cons y l ih =>
        intro hy j i x hx hi
        have hyl : (y.map bv).length = 16 := by simp [hy y (by simp)]
        cases j with
        | zero =>
          simp at hx
          subst hx
          rw [List.flatMap_cons, List.getElem?_append_left (by omega)]
          simp
        | succ j =>
          simp at hx
          rw [List.flatMap_cons, List.getElem?_append_right (by omega), hyl, show (j + 1) * 16 + i - 16 = j * 16 + i by omega]
          exact ih (fun z hz => hy z (by simp [hz])) j i x hx hi
    have := hlen Q he j i x hx hi
    rw [hu] at this
    rw [← h4, List.getElem?_take] at this
    split at this
    · simpa using this
    · cases this
set_option maxRecDepth 100000 in
set_option maxHeartbeats 4000000 in
theorem shown45 (w : World) (tw : Nat) (vq : Value) (Q : List (List UInt8)) (c8 : w.cell? ⟨tw, 8, none⟩ = some vq) (hbk : OwnN w 31 16 vq Q.length (Q.flatMap (·.map bv))) (he : ∀ x ∈ Q, x.length = 16)
    (x : Opx) (hx : x.ok) (va : Value) (ms : List UInt8) (hb : Bs w va ms) (hms : ms.length ≤ 140737488351232) (hl : Laid0 w) (h2 : 2 ≤ w.heap.size) :
    Calls Tryd.prog 45 #[.pointer (some ⟨tw, 0, none⟩), .agg (opC x).toArray, va] w fun e w' => ∃ X : List UInt8, X.length = 16 ∧ e = .returned (.agg (X.map bv).toArray) ∧ Turn no w w' := by
  obtain ⟨va', vc, hvae⟩ := hb.slice
  obtain ⟨w0, hw0⟩ : ∃ w0, (w.alloc (.cells (opC x).toArray 33)).alloc (.cells #[.int .u8 0, .int .u8 0, .int .u8 0, .int .u8 0, .int .u8 0, .int .u8 0, .int .u8 0, .int .u8 0, .int .u8 0, .int .u8 0, .int .u8 0, .int .u8 0, .int .u8 0, .int .u8 0, .int .u8 0, .int .u8 0] 31) = w0 := ⟨_, rfl⟩
  have T0 : Turn no w w0 := by rw [← hw0]; exact ((Turn.refl no w).alloc _).alloc _
  have B0 : Row w0 w.heap.size (opC x).toArray 33 := by rw [← hw0]; exact (Row.new w _ 33).alloc _
  have RZ : Row w0 (w.heap.size + 1) Z16 31 := by rw [← hw0]; exact Row.newAt _ _ _ _ (by simp)
  have bo := Bo.of hx B0
  have xt := bo.tw
  have xa := bo.a
  have xp := bo.pos
  have xX := bo.X
  have hsX := size31L hx.lX
  have hsXl : (Tryd.prog.info? 31).map (·.size) = some (x.X.map bv).length := by rw [size31z]; simp [hx.lX]; rfl
  have hoX := one31L x.X
  have hzX : Z16.size = (x.X.map bv).toArray.size := by simp [hx.lX]; rfl
  have co := of17_big w0 x.a va ms (hb.turn_no T0) (hl.turn T0 (fun q => q)) (by have := T0.size; omega) (by omega)
  rw [hvae] at co ⊢
  have sS : (Tryd.prog.info? 31).map (·.size) = some (sealV x.a ms).size := by rw [size31z, sealV_size]; rfl
  have oS := sealV_one x.a ms
  have zS : Z16.size = (sealV x.a ms).size := by rw [sealV_size]; rfl
  have hS16 : sealV x.a ms = ((sealB x.a ms).map bv).toArray := rfl
  have hlS := sealB_len x.a ms
  have d8 := T0.keep c8 (fun q => q)
  have htw : tw < w.heap.size := World.block_lt_of_cell? w _ c8
  have hgq : ∀ g, vq.ownBlock = some g → g < w.heap.size := fun g hg => hbk.lt hg
  have hbk0 := hbk.turn_no T0
  have HT0 := shutX T0
  have hlX := hx.lX
  have HbX := shutX hbk0
  clear T0 c8 hbk hb hl B0 bo hx hbk0
  generalize (opC x).toArray = C at *
  generalize hXX : x.X.map bv = XX at *
  go_enter Tryd.func45, Tryd.ntmps45
  go_upto_region 1 with fail
  try rw [hw0]
  clear hw0
  by_cases h1 : x.tw = 1
  · rw [h1] at xt
    go_wp2_with (first | (go_at_call 55; refine co.mono ?_; rintro e w1 ⟨rfl, t1⟩; have RZ1 := Row.turn RZ t1 (fun q => q)) | (refine wpList_store_anyX rfl rfl 31 (.tmp 6) (.tmp 16) rfl (w.heap.size + 1) (sealV x.a ms) rfl rfl 31 Z16 RZ1 sS zS oS ?_; intro w2 R2 T2))
    refine bodyPost_ret (v := .agg (sealV x.a ms)) ?_ rfl ⟨sealB x.a ms, hlS, rfl, (HT0.out.then_no t1).trans T2 (fun k hk q => by have q : k = w.heap.size + 1 := q; omega)⟩
    exact results_cell_row (P := Tryd.prog) Tryd.results45 _ _ (w.heap.size + 1) 31 (sealV x.a ms) (0, 0) _ rfl R2 Tryd.underlying31 rfl sS
  · by_cases h22 : x.tw = 2
    · rw [h22] at xt
      have har := fun W => around22 W x.pos 128 (by omega) (by omega)
      have hal := around_lt x.pos 128 (by omega)
      generalize around x.pos 128 = k at *
      obtain ⟨i, hi, hi16⟩ : ∃ i : Nat, (k : Int) / 8 = (i : Int) ∧ i < 16 := ⟨k / 8, by omega, by omega⟩
      have hi' : (i : Int) < 16 := by omega
      go_upto_region 7 with (first | (go_at_call 55; refine co.mono ?_; rintro e w1 ⟨rfl, t1⟩; have RZ1 := Row.turn RZ t1 (fun q => q); have xp1 := t1.keep xp (fun q => q)) | (refine wpList_store_anyX rfl rfl 31 (.tmp 7) (.tmp 22) rfl w1.heap.size (sealV x.a ms) rfl rfl 31 Z16 (Row.new w1 _ 31) sS zS oS ?_; intro w2 R2 T2; have xp2 := (((Turn.refl no w1).alloc _).trans T2 (fun k hk q => by have q : k = w1.heap.size := q; omega) : Turn no w1 w2).keep xp1 (fun q => q)) | (go_at_call 28; refine (har _).mono ?_; rintro e w3 ⟨rfl, e3⟩; subst e3))
      have T3 : Turn no w1 w3 := ((Turn.refl no w1).alloc _).trans T2 (fun k hk q => by have q : k = w1.heap.size := q; omega)
      have RZ3 := Row.turn RZ1 T3 (fun q => q)
      obtain ⟨y, hy⟩ : ∃ y, (sealB x.a ms)[i]? = some y := ⟨(sealB x.a ms)[i]'(by omega), List.getElem?_eq_getElem _⟩
      have cy : w3.cell? ⟨w1.heap.size, i, none⟩ = some (.int .u8 y.toNat) := R2.cell i _ (by rw [hS16]; simp [hy, bv])
      have fy := Row.frozen R2 i
      clear xp1 xp2 RZ1 har co
      obtain ⟨c, hc⟩ := xor_b y (2 ^ (k % 8) % 256)
      go_upto_region 8 with fail
      try rw [hc]
      have R4 : Row (w3.setCell ⟨w1.heap.size, i, none⟩ (.int .u8 c.toNat)) w1.heap.size (((sealB x.a ms).set i c).map bv).toArray 31 := by
        have := R2.set i (.int .u8 c.toNat)
        rw [hS16] at this
        simpa [List.map_set, bv] using this
      have T4 : Turn (fun k => k = w1.heap.size) w3 (w3.setCell ⟨w1.heap.size, i, none⟩ (.int .u8 c.toNat)) := (Turn.refl (fun k => k = w1.heap.size) w3).setCell (p := ⟨w1.heap.size, i, none⟩) (fun _ => rfl) _
      have hw1 : w.heap.size + 1 < w1.heap.size := RZ3.lt |> fun _ => Nat.lt_of_lt_of_le (Row.lt RZ) t1.size
      have RZ4 := Row.turn RZ3 T4 (fun q => by have q : w.heap.size + 1 = w1.heap.size := q; omega)
      have s4 : (Tryd.prog.info? 31).map (·.size) = some (((sealB x.a ms).set i c).map bv).toArray.size := size31L (by simp [hlS])
      have o4 := one31L ((sealB x.a ms).set i c)
      have z4 : Z16.size = (((sealB x.a ms).set i c).map bv).toArray.size := by simp [hlS]; rfl
      have hl4 : ((sealB x.a ms).set i c).length = 16 := by simp [hlS]
      have T04 : Turn no w (w3.setCell ⟨w1.heap.size, i, none⟩ (.int .u8 c.toNat)) := ((HT0.out.then_no t1).then_no T3).trans T4 (fun k hk q => by have q : k = w1.heap.size := q; have := HT0.out.size; have := t1.size; omega)
      have HT04 := shutX T04
      clear T3 T4 T04 R2 RZ3 cy fy hc hy T2 t1 RZ
      generalize w3.setCell ⟨w1.heap.size, i, none⟩ (.int .u8 c.toNat) = w4 at *
      generalize hG : (sealB x.a ms).set i c = G at *
      go_wp2_with (first | (refine wpList_load_row rfl 31 (.tmp 7) rfl w1.heap.size rfl 31 (G.map bv).toArray _ _ R4 Tryd.underlying31 rfl s4 ?_) | (refine wpList_store_anyX rfl rfl 31 (.tmp 6) (.tmp 38) rfl (w.heap.size + 1) (G.map bv).toArray rfl rfl 31 Z16 RZ4 s4 z4 o4 ?_; intro w5 R5 T5))
      refine bodyPost_ret (v := .agg (G.map bv).toArray) ?_ rfl ⟨G, hl4, rfl, HT04.out.trans T5 (fun k hk q => by have q : k = w.heap.size + 1 := q; omega)⟩
      exact results_cell_row (P := Tryd.prog) Tryd.results45 _ _ (w.heap.size + 1) 31 (G.map bv).toArray (0, 0) _ rfl R5 Tryd.underlying31 rfl s4
    · by_cases h33 : x.tw = 3
      · rw [h33] at xt
        by_cases hQ : Q = []
        · have hvq : vq = .slice none 0 0 ∨ ∃ a c, vq = .slice a 0 c := by
            obtain ⟨a, c, e, _⟩ := HbX.out.form
            rw [hQ] at e
            exact .inr ⟨a, c, e⟩
          obtain ⟨qa, qc, hvq⟩ : ∃ a c, vq = .slice a 0 c := by
            rcases hvq with e | e
            · exact ⟨none, 0, e⟩
            · exact e
          subst hvq
          go_wp2_with (first | (refine wpList_load_mid rfl 31 (.tmp 61) rfl w.heap.size 5 rfl XX _ xX Tryd.underlying31 rfl hsXl ?_) | (refine wpList_store_anyX rfl rfl 31 (.tmp 6) (.tmp 62) rfl (w.heap.size + 1) XX.toArray rfl rfl 31 Z16 RZ hsX hzX hoX ?_; intro w5 R5 T5))
          refine bodyPost_ret (v := .agg XX.toArray) ?_ rfl ⟨x.X, hlX, by rw [hXX], HT0.out.trans T5 (fun k hk q => by have q : k = w.heap.size + 1 := q; omega)⟩
          exact results_cell_row (P := Tryd.prog) Tryd.results45 _ _ (w.heap.size + 1) 31 XX.toArray (0, 0) _ rfl R5 Tryd.underlying31 rfl hsX
        · obtain ⟨qa, qc, hvq, _⟩ := HbX.out.form
          obtain ⟨n, hn⟩ : ∃ n, Hid (Q.length = n) := ⟨_, rfl⟩
          have hn' : Q.length = n := hn.out
          have hpos : 1 ≤ n := by
            rw [← hn']
            exact Nat.one_le_iff_ne_zero.2 (fun e => hQ (List.eq_nil_of_length_eq_zero e))
          have hpos' : (0 : Int) < (n : Int) := by omega
          have hnl : n ≤ 9223372036854775807 := by
            obtain ⟨_, _, _, _, h5, _⟩ := HbX.out.form
            simp only [maxLen] at h5
            omega
          have har := fun W => around22 W x.pos n hpos hnl
          have hal := around_lt x.pos n hpos
          generalize around x.pos n = i at *
          obtain ⟨y, hy⟩ : ∃ y, Q[i]? = some y := ⟨Q[i]'(by omega), List.getElem?_eq_getElem _⟩
          obtain ⟨g, cap, hvq2, hrg⟩ := book_row HbX.out he hy
          have hly := he y (List.mem_of_getElem? hy)
          have hgl : g < w.heap.size := hgq g (by rw [hvq2]; rfl)
          have hmid := fun W (t : Turn (fun k => k = w.heap.size + 1) w0 W) => (fun j u hu => t.keep (hrg j u hu) (fun q => by have q : g = w.heap.size + 1 := q; omega) : W.rangeAt g (i * 16) (y.map bv))
          have syl : (Tryd.prog.info? 31).map (·.size) = some (y.map bv).length := by rw [size31z]; simp [hly]; rfl
          have sy := size31L hly
          have oy := one31L y
          have zy : Z16.size = (y.map bv).toArray.size := by simp [hly]; rfl
          rw [hn'] at hvq2
          clear hn' hvq hQ
          subst hvq2
          have hal' : (i : Int) < (n : Int) := by omega
          go_wp2_with fail
          refine wp_region_noPanic ?_
          refine wp_region_held_drew (S := fun W => Turn (fun k => k = w.heap.size + 1) w0 W) (by kernel_rfl) ((Turn.refl _ w0).drew) (fun hHeld => ?_)
          refine' wpAnyH_take (i := 0) (v := .pointer (some ⟨tw, 0, none⟩)) rfl (by kernel_rfl) (by kernel_rfl) (by kernel_rfl) (fun _ _ _ h => h) (Or.inl ⟨by kernel_rfl, fun W hW => ?y1⟩) hHeld ?r1
          · go_simp
          refine' wpAnyH_take (i := 1) (v := .pointer (some ⟨tw, 0, none⟩)) rfl (by kernel_rfl) (by kernel_rfl) (by kernel_rfl) (fun _ _ _ h => h) (Or.inl ⟨by kernel_rfl, fun W hW => ?y2⟩) hHeld ?r2
          · go_simp
          refine' wpAnyH_take (i := 2) (v := .pointer (some ⟨tw, 8, none⟩)) rfl (by kernel_rfl) (by kernel_rfl) (by kernel_rfl) (fun _ _ _ h => h) (Or.inl ⟨by kernel_rfl, fun W hW => ?y3⟩) hHeld ?r3
          · go_simp
          refine' wpAnyH_take (i := 3) (v := .slice (some ⟨g, 0, none⟩) n cap) rfl (by kernel_rfl) (by kernel_rfl) (by kernel_rfl) (fun _ _ _ h => h) (Or.inl ⟨by kernel_rfl, fun W hW => ?y4⟩) hHeld ?r4
          · have c := hW.keep d8 (fun q => by have q : tw = w.heap.size + 1 := q; omega)
            go_simp
          refine' wpAnyH_take (i := 4) (v := .pointer (some ⟨w.heap.size, 2, none⟩)) rfl (by kernel_rfl) (by kernel_rfl) (by kernel_rfl) (fun _ _ _ h => h) (Or.inl ⟨by kernel_rfl, fun W hW => ?y5⟩) hHeld ?r5
          · go_simp
          refine' wpAnyH_take (i := 5) (v := .int .i64 x.pos) rfl (by kernel_rfl) (by kernel_rfl) (by kernel_rfl) (fun _ _ _ h => h) (Or.inl ⟨by kernel_rfl, fun W hW => ?y6⟩) hHeld ?r6
          · have c := hW.keep xp (fun q => by have q : w.heap.size = w.heap.size + 1 := q; omega)
            go_simp
          refine' wpAnyH_take (i := 6) (v := .pointer (some ⟨tw, 0, none⟩)) rfl (by kernel_rfl) (by kernel_rfl) (by kernel_rfl) (fun _ _ _ h => h) (Or.inl ⟨by kernel_rfl, fun W hW => ?y7⟩) hHeld ?r7
          · go_simp
          refine' wpAnyH_take (i := 7) (v := .pointer (some ⟨tw, 0, none⟩)) rfl (by kernel_rfl) (by kernel_rfl) (by kernel_rfl) (fun _ _ _ h => h) (Or.inl ⟨by kernel_rfl, fun W hW => ?y8⟩) hHeld ?r8
          · go_simp
          refine' wpAnyH_take (i := 8) (v := .pointer (some ⟨tw, 8, none⟩)) rfl (by kernel_rfl) (by kernel_rfl) (by kernel_rfl) (fun _ _ _ h => h) (Or.inl ⟨by kernel_rfl, fun W hW => ?y9⟩) hHeld ?r9
          · go_simp
          refine' wpAnyH_take (i := 9) (v := .slice (some ⟨g, 0, none⟩) n cap) rfl (by kernel_rfl) (by kernel_rfl) (by kernel_rfl) (fun _ _ _ h => h) (Or.inl ⟨by kernel_rfl, fun W hW => ?y10⟩) hHeld ?r10
          · have c := hW.keep d8 (fun q => by have q : tw = w.heap.size + 1 := q; omega)
            go_simp
          refine' wpAnyH_take (i := 10) (v := .int .i64 n) rfl (by kernel_rfl) (by kernel_rfl) (by kernel_rfl) (fun _ _ _ h => h) (Or.inl ⟨by kernel_rfl, fun W hW => ?y11⟩) hHeld ?r11
          · go_simp
          refine wpAnyH_ready (rs := [11]) (by kernel_rfl) (by simp) ?_
          refine AllReadyH.cons rfl (fun K hK => ?_) AllReadyH.nil
          go_simp
          refine (har _).mono ?_
          rintro e w2 ⟨rfl, e2⟩
          subst e2
          refine hK.out _ _ ((Turn.refl _ w0).drew) (fun hHeld => ?_)
          clear hK
          refine' wpAnyH_take (i := 12) (v := .pointer (some ⟨g, i * 16, none⟩)) rfl (by kernel_rfl) (by kernel_rfl) (by kernel_rfl) (fun _ _ _ h => h) (Or.inl ⟨by kernel_rfl, fun W hW => ?y12⟩) hHeld ?r12
          · go_simp
          refine' wpAnyH_take (i := 13) (v := .agg (y.map bv).toArray) rfl (by kernel_rfl) (by kernel_rfl) (by kernel_rfl) (fun _ _ _ h => h) (yieldsIf_load_mid (by kernel_rfl) 31 (.tmp 59) rfl g (i * 16) (by kernel_rfl) (y.map bv) _ (fun W h => hmid W h) Tryd.underlying31 rfl syl) hHeld ?s0
          have RZ2 := Row.turn RZ ((Turn.refl no w0).drew) (fun q => q)
          refine wpAnyH_ready (rs := [14]) (by kernel_rfl) (by simp) ?_
          refine AllReadyH.cons rfl (fun K hK => ?_) AllReadyH.nil
          rw [if_pos (by kernel_rfl)]
          refine wp_store_row 31 _ _ rfl (w.heap.size + 1) (y.map bv).toArray rfl rfl 31 Z16 RZ2 sy zy oy ?_
          have R5 : Row (w0.drew.setRow (w.heap.size + 1) (y.map bv).toArray) (w.heap.size + 1) (y.map bv).toArray 31 := setRow_heap _ _ _ _ _ _ RZ2
          have T5 : Turn (fun k => k = w.heap.size + 1) w0 (w0.drew.setRow (w.heap.size + 1) (y.map bv).toArray) := (Turn.refl no w0).drew.of_no.trans (setRow_turn _ _) (fun _ _ q => q)
          refine hK.out _ _ T5 (fun hHeld => ?_)
          clear hK
          refine wpAnyH_done (by kernel_rfl) ?_ _
          refine NoPanic.normal ?_
          go_simp
          clear RZ2
          generalize w0.drew.setRow (w.heap.size + 1) (y.map bv).toArray = w5 at *
          go_wp2_with fail
          refine bodyPost_ret (v := .agg (y.map bv).toArray) ?_ rfl ⟨y, hly, rfl, HT0.out.trans T5 (fun k hk q => by have q : k = w.heap.size + 1 := q; omega)⟩
          exact results_cell_row (P := Tryd.prog) Tryd.results45 _ _ (w.heap.size + 1) 31 (y.map bv).toArray (0, 0) _ rfl R5 Tryd.underlying31 rfl sy
      · go_wp2_with (first | (refine wpList_load_mid rfl 31 (.tmp 61) rfl w.heap.size 5 rfl XX _ xX Tryd.underlying31 rfl hsXl ?_) | (refine wpList_store_anyX rfl rfl 31 (.tmp 6) (.tmp 62) rfl (w.heap.size + 1) XX.toArray rfl rfl 31 Z16 RZ hsX hzX hoX ?_; intro w5 R5 T5))
        refine bodyPost_ret (v := .agg XX.toArray) ?_ rfl ⟨x.X, hlX, by rw [hXX], HT0.out.trans T5 (fun k hk q => by have q : k = w.heap.size + 1 := q; omega)⟩
        exact results_cell_row (P := Tryd.prog) Tryd.results45 _ _ (w.heap.size + 1) 31 XX.toArray (0, 0) _ rfl R5 Tryd.underlying31 rfl hsX
end Go.Proofs.YtnlcngcilojnkabDoor
