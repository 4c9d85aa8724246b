/- checks: Check on both sides of a pair. -/
import Derived.Test.YtnlcngcilojnkabDoorPa
import Derived.Test.YtnlcngcilojnkabDoorM3
namespace Go.Proofs.YtnlcngcilojnkabDoor
open Go.RowKit Go.Maps Go.MuLone
set_option linter.unusedVariables false

/-- A message, and a list with room behind it that begins with it. -/
structure Mg (old : Nat) (w : World) (v : Value) (g c : Nat) (ms : List UInt8) : Prop where
  own : Own w 5 v (ms.map bv)
  new : ∀ b, v.ownBlock = some b → old ≤ b
  full : Own w 5 (.slice (some ⟨g, 0, none⟩) (ms.length + 3) c) ((ms ++ marks).map bv)
  newg : old ≤ g
  len : ms.length ≤ 140737488351232
  off : v.ownBlock ≠ some g
theorem Mg.turn {S : Nat → Prop} {old : Nat} {w w' : World} {v : Value} {g c : Nat} {ms : List UInt8} (h : Mg old w v g c ms) (t : Turn S w w') (hS : ∀ b, old ≤ b → ¬ S b) : Mg old w' v g c ms :=
  ⟨h.own.turn t (fun b hb => hS b (h.new b hb)), h.new, h.full.turn t (fun b hb => by cases hb; exact hS g h.newg), h.newg, h.len, h.off⟩
theorem Mg.turn_no {old : Nat} {w w' : World} {v : Value} {g c : Nat} {ms : List UInt8} (h : Mg old w v g c ms) (t : Turn no w w') : Mg old w' v g c ms := h.turn t (fun _ _ q => q)
theorem Mg.cap {old : Nat} {w : World} {v : Value} {g c : Nat} {ms : List UInt8} (h : Mg old w v g c ms) : ms.length ≤ c := by
  rcases h.full.shape with ⟨e, _⟩ | ⟨_, cap, _, e, _, h1, _⟩
  · cases e
  · simp at e h1
    have := e.2.2
    omega
theorem Mg.bs {old : Nat} {w : World} {v : Value} {g c : Nat} {ms : List UInt8} (h : Mg old w v g c ms) : Bs w (.slice (some ⟨g, 0, none⟩) ms.length c) ms := by
  obtain ⟨a', c', e, _, hB⟩ := take_bs h.full ms.length (by simp)
  simp at e
  obtain ⟨e1, _, e3⟩ := e
  rw [← e1, ← e3] at hB
  simpa using hB
section
variable {base : Nat} {w : World} {tw : Nat} {d : Nat → Pd} {vq : Value} {Q : List (List UInt8)} {k : Nat}
theorem size33c : (Tryd.prog.info? 33).map (·.size) = some 23 := by kernel_rfl
theorem sizeOp {x : Opx} (hx : x.ok) : (Tryd.prog.info? 33).map (·.size) = some (opC x).toArray.size := by
  have : (opC x).toArray.size = 23 := by simpa using opC_len hx
  rw [this]
  exact size33c
set_option maxRecDepth 100000 in
set_option maxHeartbeats 4000000 in
theorem checks22 (h : Tw base w tw d vq Q) (hk : k < 2) (x : Opx) (hx : x.ok) (hb : Bs w x.va x.bs) (hl0 : Laid0 w) (hl1 : Laid1 w) (h2 : 2 ≤ base) : Calls Tryd.prog 22 #[.pointer (some ⟨tw, 0, none⟩), .int .i64 k, .agg (opC x).toArray] w fun e w' =>
    e = .returned (.bool true) ∧ Tw base w' tw d vq Q ∧ Turn (fun g => base ≤ g) w w' := by
  have HSm := shutX (h.side k hk).small
  have hk' : (k : Int) < 2 := by omega
  obtain ⟨w0, hw0⟩ : ∃ w0, w.alloc (.cells (opC x).toArray 33) = w0 := ⟨_, rfl⟩
  have T0 : Turn no w w0 := by rw [← hw0]; exact (Turn.refl no w).alloc _
  have B0 : Row w0 w.heap.size (opC x).toArray 33 := by rw [← hw0]; exact Row.new w _ 33
  have h0 := h.turn_no T0
  obtain ⟨gB, hgB⟩ : ∃ g, w.heap.size = g := ⟨_, rfl⟩
  have s33 := sizeOp hx
  have hl00 := hl0.turn T0 (fun q => q)
  have hl10 := hl1.turn T0 (fun q => q)
  have bsz := h.size
  have cm := message39 w0 x hx (hb.turn_no T0)
  have cr := fun W v ms (hb : Bs W v ms) hl => room40 W v ms hb hl
  have csh := fun W (t : Turn no w0 W) va ms (hb : Bs W va ms) hms => shown45 W tw vq Q (t.keep h0.c8 (fun q => q)) (h0.book.turn_no t) h0.each x hx va ms hb hms (hl00.turn t (fun q => q)) (by have := t.size; have := T0.size; omega)
  rw [hgB] at B0
  have HB0 := shutX B0
  have HT0 := shutX T0
  have Hh0 := shutX h0
  have HL := shutX (And.intro hl00 hl10)
  have HBo : Shut (∀ W, Row W gB (opC x).toArray 33 → W.cell? ⟨gB, 3, none⟩ = some (.int .u64 x.a.toNat)) := fun W r => (Bo.of hx r).a
  clear T0 h0 hl00 hl10 hb hl0 hl1
  generalize (opC x).toArray = C at *
  go_enter Tryd.func22, Tryd.ntmps22
  go_upto_region 1 with fail
  try rw [hw0]
  try rw [hgB]
  clear hw0
  go_upto_region 3 with (first | (refine wpList_load_row rfl 33 (.tmp 5) rfl gB rfl 33 C _ _ B0 Tryd.underlying33 rfl s33 ?_) | (go_at_call 39; refine cm.mono ?_; rintro e w1 ⟨v, ms, rfl, o1, f1, l1, t1⟩; obtain ⟨va, vc, hva⟩ := o1.bs.slice; subst hva) | (go_at_call 40; refine (cr w1 _ ms o1.bs (by omega)).mono ?_; rintro e w2 ⟨g, c, rfl, o2, f2, t2⟩))
  have t02 : Turn no w0 w2 := t1.then_no t2
  have M2 : Mg w0.heap.size w2 (.slice va ms.length vc) g c ms := ⟨o1.turn_no t2, f1, o2, Nat.le_trans t1.size f2, l1, fun e => by have := o1.lt e; omega⟩
  have B2 := HB0.out.turn t02 (fun q => q)
  have cs2 := csh w2 t02 _ ms M2.own.bs (by omega)
  clear cm cr csh o1 f1 o2 f2 t1 t2 B0
  go_upto_region 4 with (first | (refine wpList_load_row rfl 33 (.tmp 5) rfl gB rfl 33 C _ _ B2 Tryd.underlying33 rfl s33 ?_) | (go_at_call 45; refine cs2.mono ?_; rintro e w3 ⟨X, hX, rfl, t3⟩; have sX := size31L hX; have oX := one31L X; have zX : Z16.size = (X.map bv).toArray.size := (by simp [hX]; rfl)) | (refine wpList_store_anyX rfl rfl 31 (.tmp 9) (.tmp 20) rfl w3.heap.size (X.map bv).toArray rfl rfl 31 Z16 (Row.new w3 _ 31) sX zX oX ?_; intro w4 R4 T4))
  have t34 : Turn no w3 w4 := ((Turn.refl no w3).alloc _).trans T4 (fun k hk q => by have q : k = w3.heap.size := q; omega)
  have t04 : Turn no w0 w4 := t02.then_no (t3.then_no t34)
  have M4 := M2.turn_no (t3.then_no t34)
  have h4 := Hh0.out.turn_no t04
  have xa4 := HBo.out w4 (HB0.out.turn t04 (fun q => q))
  have cp4 : w4.cell? ⟨tw, k, none⟩ = some (.pointer (some ⟨(d k).p, 0, none⟩)) := (h4.at (i := 0) hk).1
  have cq4 : w4.cell? ⟨tw, 2 + k, none⟩ = some (.pointer (some ⟨(d k).q, 0, none⟩)) := (h4.at (i := 0) hk).2.1
  have hl04 : Laid0 w4 := HL.out.1.turn t04 (fun q => q)
  have hl14 : Laid1 w4 := HL.out.2.turn t04 (fun q => q)
  have hsz4 : 2 ≤ w4.heap.size := by have := t04.size; have := HT0.out.size; omega
  have hcap := M4.cap
  have hcapI : (ms.length : Int) ≤ (c : Int) := by omega
  obtain ⟨gX, hgX⟩ : ∃ g, w3.heap.size = g := ⟨_, rfl⟩
  rw [hgX] at R4 ⊢
  have gXn : w0.heap.size ≤ gX := by have := (t02.then_no t3).size; omega
  have hplt : (d k).p < w0.heap.size := (Hh0.out.side k hk).lt (.inl (.inl rfl))
  have hp1 : (d k).p ≠ 1 := by have := h4.new k hk _ (.inl (.inl rfl)); omega
  have htwl : tw < w0.heap.size := Hh0.out.row.lt
  have hgBl : gB < w0.heap.size := HB0.out.lt
  have cb := (h4.side k hk).bk.turn_no ((Turn.refl no w4).drew)
  have cc := cb.check x.a (.slice (some ⟨g, 0, none⟩) ms.length c) ms (M4.bs.turn_no ((Turn.refl no w4).drew)) (fun _ e => by have e : g = (d k).p := (by simpa [Value.ownBlock] using e); have := M4.newg; omega) X hX (hl14.turn ((Turn.refl no w4).drew) (fun q => q)) hsz4 hp1 (fun q => by have := HSm.out _ q; simp only at this; omega)
  have rX : ∀ W, Turn (fun g => g = (d k).p) w4 W → W.rangeAt gX 0 (X.map bv) := fun W t j u hu => (Row.turn R4 t (fun q => by have q : gX = (d k).p := q; omega)).cell (0 + j) _ (by rw [Nat.zero_add]; simpa using hu)
  have sXl : (Tryd.prog.info? 31).map (·.size) = some (X.map bv).length := by rw [size31z]; simp [hX]; rfl
  have HM := shutX M4
  have Hh4 := shutX h4
  have HT4 := shutX t04
  have HR := shutX R4
  clear M2 M4 h4 t04 t34 t02 t3 T4 cb R4 B2 cs2 zX
  refine wp_region_noPanic ?_
  refine wp_region_held_drew (S := fun W => Turn (fun g => g = (d k).p) w4 W) (by kernel_rfl) ((Turn.refl _ w4).drew) (fun hHeld => ?_)
  refine' wpAnyH_take (i := 0) (v := .pointer (some ⟨tw, 0, none⟩)) rfl (by kernel_rfl) (by kernel_rfl) (by kernel_rfl) (fun _ _ _ h => h) (Or.inl ⟨by kernel_rfl, fun W hW => ?y1⟩) hHeld ?r1
  · go_simp
  refine' wpAnyH_take (i := 1) (v := .int .i64 k) rfl (by kernel_rfl) (by kernel_rfl) (by kernel_rfl) (fun _ _ _ h => h) (Or.inl ⟨by kernel_rfl, fun W hW => ?y2⟩) hHeld ?r2
  · go_simp
  refine' wpAnyH_take (i := 2) (v := .pointer (some ⟨tw, 0, none⟩)) rfl (by kernel_rfl) (by kernel_rfl) (by kernel_rfl) (fun _ _ _ h => h) (Or.inl ⟨by kernel_rfl, fun W hW => ?y3⟩) hHeld ?r3
  · go_simp
  refine' wpAnyH_take (i := 3) (v := .pointer (some ⟨tw, 0, none⟩)) rfl (by kernel_rfl) (by kernel_rfl) (by kernel_rfl) (fun _ _ _ h => h) (Or.inl ⟨by kernel_rfl, fun W hW => ?y4⟩) hHeld ?r4
  · go_simp
  refine' wpAnyH_take (i := 4) (v := .pointer (some ⟨tw, k, none⟩)) rfl (by kernel_rfl) (by kernel_rfl) (by kernel_rfl) (fun _ _ _ h => h) (Or.inl ⟨by kernel_rfl, fun W hW => ?y5⟩) hHeld ?r5
  · go_simp
  refine' wpAnyH_take (i := 5) (v := .pointer (some ⟨(d k).p, 0, none⟩)) rfl (by kernel_rfl) (by kernel_rfl) (by kernel_rfl) (fun _ _ _ h => h) (Or.inl ⟨by kernel_rfl, fun W hW => ?y6⟩) hHeld ?r6
  · have c := hW.keep cp4 (fun q => Hh4.out.tw_off hk (by have q : tw = (d k).p := q; rw [q]; exact .inl (.inl rfl)))
    go_simp
  refine' wpAnyH_take (i := 6) (v := .pointer (some ⟨gB, 3, none⟩)) rfl (by kernel_rfl) (by kernel_rfl) (by kernel_rfl) (fun _ _ _ h => h) (Or.inl ⟨by kernel_rfl, fun W hW => ?y7⟩) hHeld ?r7
  · go_simp
  refine' wpAnyH_take (i := 7) (v := .int .u64 x.a.toNat) rfl (by kernel_rfl) (by kernel_rfl) (by kernel_rfl) (fun _ _ _ h => h) (Or.inl ⟨by kernel_rfl, fun W hW => ?y8⟩) hHeld ?r8
  · have c := hW.keep xa4 (fun q => by have q : gB = (d k).p := q; have := (Hh4.out.side k hk).lt (g := gB) (by rw [q]; exact .inl (.inl rfl)); exact absurd (tag_ne (HB0.out.turn HT4.out (fun q => q)) (by have := (Hh4.out.side k hk).bk; obtain ⟨D1, D2, hr, _⟩ := this.reg; rw [q]; exact hr.row)) (by decide))
    go_simp
  refine' wpAnyH_take (i := 8) (v := .slice (some ⟨g, 0, none⟩) (ms.length + 3) c) rfl (by kernel_rfl) (by kernel_rfl) (by kernel_rfl) (fun _ _ _ h => h) (Or.inl ⟨by kernel_rfl, fun W hW => ?y9⟩) hHeld ?r9
  · go_simp
  refine' wpAnyH_take (i := 9) (v := .slice va ms.length vc) rfl (by kernel_rfl) (by kernel_rfl) (by kernel_rfl) (fun _ _ _ h => h) (Or.inl ⟨by kernel_rfl, fun W hW => ?y10⟩) hHeld ?r10
  · go_simp
  refine' wpAnyH_take (i := 10) (v := .int .i64 ms.length) rfl (by kernel_rfl) (by kernel_rfl) (by kernel_rfl) (fun _ _ _ h => h) (Or.inl ⟨by kernel_rfl, fun W hW => ?y11⟩) hHeld ?r11
  · go_simp
  refine' wpAnyH_take (i := 11) (v := .slice (some ⟨g, 0, none⟩) ms.length c) rfl (by kernel_rfl) (by kernel_rfl) (by kernel_rfl) (fun _ _ _ h => h) (Or.inl ⟨by kernel_rfl, fun W hW => ?y12⟩) hHeld ?r12
  · go_simp
  refine' wpAnyH_take (i := 12) (v := .agg (X.map bv).toArray) rfl (by kernel_rfl) (by kernel_rfl) (by kernel_rfl) (fun _ _ _ h => h) (yieldsIf_load_mid (by kernel_rfl) 31 (.tmp 9) rfl gX 0 (by kernel_rfl) (X.map bv) _ (fun W h => rX W h) Tryd.underlying31 rfl sXl) hHeld ?s0
  refine wpAnyH_ready (rs := [13]) (by kernel_rfl) (by simp) ?_
  refine AllReadyH.cons rfl (fun K hK => ?_) AllReadyH.nil
  go_simp
  refine cc.mono ?_
  rintro e w5 ⟨rfl, bk5, t5⟩
  have t45 : Turn (fun g => g = (d k).p) w4 w5 := ((Turn.refl _ w4).drew).trans t5 (fun _ _ q => q)
  refine hK.out _ _ t45 (fun hHeld => ?_)
  clear hK cc
  generalize hbB : (decide ((x.a, ms) ∈ (d k).R) && X == sealB x.a ms) = bB at *
  refine' wpAnyH_take (i := 14) (v := .bool bB) rfl (by kernel_rfl) (by kernel_rfl) (by kernel_rfl) (fun _ _ _ h => h) (Or.inl ⟨by kernel_rfl, fun W hW => ?y13⟩) hHeld ?r13
  · go_simp
  refine wpAnyH_done (by kernel_rfl) ?_ _
  refine NoPanic.normal ?_
  go_simp
  obtain ⟨h5, tb5⟩ := Hh4.out.side_same hk (t45.mono (fun _ _ q => .inl (.inl q))) ((Hh4.out.side k hk).bk_same t45 bk5)
  have hS5 : ∀ b, w0.heap.size ≤ b → ¬ b = (d k).p := fun b hb q => by omega
  have M5 := HM.out.turn t45 hS5
  have cq5 : w5.cell? ⟨tw, 2 + k, none⟩ = some (.pointer (some ⟨(d k).q, 0, none⟩)) := (h5.at (i := 0) hk).2.1
  have xa5 := HBo.out w5 ((HB0.out.turn HT4.out (fun q => q)).turn t45 (fun q => by have q : gB = (d k).p := q; exact absurd (tag_ne (HB0.out.turn HT4.out (fun q => q)) (by have := (Hh4.out.side k hk).bk; obtain ⟨D1, D2, hr, _⟩ := this.reg; rw [q]; exact hr.row)) (by decide)))
  have hl05 : Laid0 w5 := hl04.turn t45 (fun q => by have := h5.new k hk _ (.inl (.inl rfl)); have q : 0 = (d k).p := q; omega)
  have cc5 := rcheck47 ((h5.side k hk).rf.turn_no ((Turn.refl no w5).drew)) x.a (.slice va ms.length vc) ms (M5.own.bs.turn_no ((Turn.refl no w5).drew)) X hX (hl05.turn ((Turn.refl no w5).drew) (fun q => q)) (by have := t45.size; exact Nat.le_trans hsz4 this) (fun q => by have := HSm.out _ q; simp only at this; omega)
  rw [hbB] at cc5
  have rX5 : ∀ W, Turn no w5 W → W.rangeAt gX 0 (X.map bv) := fun W t => rX W (t45.then_no t)
  have HT5 := shutX (HT0.out.of_no.trans ((HT4.out.of_no (S := fun g => base ≤ g)).trans tb5 (fun _ _ q => q)) (fun _ _ q => q))
  have HM5 := shutX M5
  have Hh5 := shutX h5
  clear rX M5 h5 tb5 t5 bk5 hHeld cp4 cq4 xa4
  go_wp2_with fail
  refine wp_region_noPanic ?_
  refine wp_region_held_drew (S := fun W => Turn no w5 W) (by kernel_rfl) ((Turn.refl _ w5).drew) (fun hHeld => ?_)
  refine' wpAnyH_take (i := 0) (v := .pointer (some ⟨tw, 0, none⟩)) rfl (by kernel_rfl) (by kernel_rfl) (by kernel_rfl) (fun _ _ _ h => h) (Or.inl ⟨by kernel_rfl, fun W hW => ?y14⟩) hHeld ?r14
  · go_simp
  refine' wpAnyH_take (i := 1) (v := .int .i64 k) rfl (by kernel_rfl) (by kernel_rfl) (by kernel_rfl) (fun _ _ _ h => h) (Or.inl ⟨by kernel_rfl, fun W hW => ?y15⟩) hHeld ?r15
  · go_simp
  refine' wpAnyH_take (i := 2) (v := .pointer (some ⟨tw, 0, none⟩)) rfl (by kernel_rfl) (by kernel_rfl) (by kernel_rfl) (fun _ _ _ h => h) (Or.inl ⟨by kernel_rfl, fun W hW => ?y16⟩) hHeld ?r16
  · go_simp
  refine' wpAnyH_take (i := 3) (v := .pointer (some ⟨tw, 2, none⟩)) rfl (by kernel_rfl) (by kernel_rfl) (by kernel_rfl) (fun _ _ _ h => h) (Or.inl ⟨by kernel_rfl, fun W hW => ?y17⟩) hHeld ?r17
  · go_simp
  refine' wpAnyH_take (i := 4) (v := .pointer (some ⟨tw, 2 + k, none⟩)) rfl (by kernel_rfl) (by kernel_rfl) (by kernel_rfl) (fun _ _ _ h => h) (Or.inl ⟨by kernel_rfl, fun W hW => ?y18⟩) hHeld ?r18
  · go_simp
  refine' wpAnyH_take (i := 5) (v := .pointer (some ⟨(d k).q, 0, none⟩)) rfl (by kernel_rfl) (by kernel_rfl) (by kernel_rfl) (fun _ _ _ h => h) (Or.inl ⟨by kernel_rfl, fun W hW => ?y19⟩) hHeld ?r19
  · have c := hW.keep cq5 (fun q => q)
    go_simp
  refine' wpAnyH_take (i := 6) (v := .pointer (some ⟨gB, 3, none⟩)) rfl (by kernel_rfl) (by kernel_rfl) (by kernel_rfl) (fun _ _ _ h => h) (Or.inl ⟨by kernel_rfl, fun W hW => ?y20⟩) hHeld ?r20
  · go_simp
  refine' wpAnyH_take (i := 7) (v := .int .u64 x.a.toNat) rfl (by kernel_rfl) (by kernel_rfl) (by kernel_rfl) (fun _ _ _ h => h) (Or.inl ⟨by kernel_rfl, fun W hW => ?y21⟩) hHeld ?r21
  · have c := hW.keep xa5 (fun q => q)
    go_simp
  refine' wpAnyH_take (i := 8) (v := .slice va ms.length vc) rfl (by kernel_rfl) (by kernel_rfl) (by kernel_rfl) (fun _ _ _ h => h) (Or.inl ⟨by kernel_rfl, fun W hW => ?y22⟩) hHeld ?r22
  · go_simp
  refine' wpAnyH_take (i := 9) (v := .agg (X.map bv).toArray) rfl (by kernel_rfl) (by kernel_rfl) (by kernel_rfl) (fun _ _ _ h => h) (yieldsIf_load_mid (by kernel_rfl) 31 (.tmp 9) rfl gX 0 (by kernel_rfl) (X.map bv) _ (fun W h => rX5 W h) Tryd.underlying31 rfl sXl) hHeld ?s1
  refine wpAnyH_ready (rs := [10]) (by kernel_rfl) (by simp) ?_
  refine AllReadyH.cons rfl (fun K hK => ?_) AllReadyH.nil
  go_simp
  refine cc5.mono ?_
  rintro e w6 ⟨rfl, t6⟩
  have t56 : Turn no w5 w6 := ((Turn.refl _ w5).drew).then_no t6
  refine hK.out _ _ t56 (fun hHeld => ?_)
  clear hK cc5
  refine' wpAnyH_take (i := 11) (v := .bool bB) rfl (by kernel_rfl) (by kernel_rfl) (by kernel_rfl) (fun _ _ _ h => h) (Or.inl ⟨by kernel_rfl, fun W hW => ?y23⟩) hHeld ?r23
  · go_simp
  refine wpAnyH_done (by kernel_rfl) ?_ _
  refine NoPanic.normal ?_
  go_simp
  have M6 := HM5.out.turn_no t56
  have cl := left43 w6 g c ms (by have := M6.len; omega) M6.full _ M6.own.bs
  have csp := fun W (t : Turn no w6 W) => spoil44 W g (ms.length + 3) c (ms ++ marks) (M6.full.turn_no t) (by simp [marks]) (by have := M6.len; omega)
  have h6 := Hh5.out.turn_no t56
  have HT6 := shutX (HT5.out.then_no t56)
  have hng := M6.newg
  have Hh6 := shutX h6
  have ebB : ∀ W, (binOp .eql 4 (.bool bB) (.bool bB)).run Tryd.prog W = .ok (.bool true) W := fun W => by cases bB <;> kernel_rfl
  clear M6 h6 t56 t6 hHeld
  go_wp2_with (first | (go_at_call 43; refine cl.mono ?_; rintro e w7 ⟨rfl, t7⟩) | (go_at_call 44; refine (csp _ t7).mono ?_; rintro e w8 ⟨rfl, t8⟩))
  go_ret
  have h7 := Hh6.out.turn_no t7
  refine ⟨rfl, ⟨h7.row.turn t8 (fun q => ?_), fun j hj => (h7.side j hj).turn t8 (fun b hb q => ?_), h7.apart, h7.book.turn t8 (fun b hb q => ?_), h7.each, h7.new, h7.newq, h7.newt, Nat.le_trans h7.size t8.size⟩, (HT6.out.then_no t7).trans t8 (fun b _ q => ?_)⟩
  · have q : tw = g := q
    omega
  · have q : b = g := q
    have := (Hh0.out.side j hj).lt hb
    omega
  · have q : b = g := q
    have := Hh0.out.book.lt hb
    omega
  · have q : b = g := q
    have := HT0.out.size
    have : base ≤ b := by omega
    exact this
end
end Go.Proofs.YtnlcngcilojnkabDoor
