/- Texts in one. -/
import Derived.Test.YtgimecdmleofeaaDoorI01
import Derived.Test.YtgimecdmleofeaaDoorR3
import Derived.Test.YtgimecdmleofeaaDoorR4
import Derived.Deep.RegionHeld
/- Votes and evidence laid down with their seals. -/
namespace Go.Proofs.YtgimecdmleofeaaDoor
open Go.RowKit
set_option linter.unusedVariables false

/-- A vote with its seal, as bytes. -/
def voS (x : Vt) : List UInt8 := voB x ++ x.se
theorem plainE_zero {v : Vt} (h : plainE v = 0) : 1 ≤ v.k ∧ v.k ≤ 2 ∧ 0 ≤ v.r ∧ v.r ≤ 65535 := by
  by_cases h1 : v.k = 1
  · rw [plainE_1 h1] at h
    unfold fieldE at h
    split at h
    · rename_i q
      simp [rB] at q
      omega
    · cases h
  · by_cases h2 : v.k = 2
    · rw [plainE_2 h2] at h
      unfold fieldE at h
      split at h
      · rename_i q
        simp [rB] at q
        omega
      · cases h
    · rw [plainE_0 h1 h2] at h; cases h
theorem voS_le {x : Vt} (h : x.ok) : (voS x).length ≤ 200 := by
  have := varE_le x.h.toNat
  have := varE_le x.r.toNat
  have := varE_le x.t.toNat
  have := varE_le x.f.toNat
  have := leB_length x.k.toNat 1
  have := h.1
  have := h.2
  simp only [voS, voB, List.length_append]
  omega
theorem size78 {x : Vt} (h : x.ok) : (Tryd.prog.info? 78).map (·.size) = some x.cs.length := by rw [x.len h]; exact size29
set_option maxRecDepth 100000 in
set_option maxHeartbeats 4000000 in
theorem layVote119 (w : World) (p : Nat) (v : Value) (bs : List UInt8) (h : Wr w p v bs 0) (x : Vt) (ho : x.fits) (hk1 : 1 ≤ x.k) (hk2 : x.k ≤ 2) (hr0 : 0 ≤ x.r) (hr1 : x.r ≤ 65535) (hle : bs.length + 1000 ≤ 140737488355328) :
    Calls Tryd.prog 119 #[.pointer (some ⟨p, 0, none⟩), .agg x.cs.toArray, .func (.func 56) #[.pointer (some ⟨p, 0, none⟩)] #[]] w fun e w' => e = .returned (.tuple #[]) ∧ Laid w p v (bs ++ voS x) 0 w' := by
  obtain ⟨hok, hh, ht, hf⟩ := ho
  have hR := Row.new w x.cs.toArray 78
  obtain ⟨c0, c1, c2, c3, c4, ci⟩ := hR.vt hok
  have cse : (w.alloc (.cells x.cs.toArray 78)).rangeAt w.heap.size 37 (x.se.map bv) := fun j u hu => hR.cell (37 + j) u (Vt.cse hok j u hu)
  have t0 : Turn no w (w.alloc (.cells x.cs.toArray 78)) := (Turn.refl no w).alloc _
  have L0 := Laid.refl (h.turn_no t0)
  have hb : ¬ wfoot p v w.heap.size := by
    rintro (q | q)
    · have := h.lt; omega
    · have := h.own.lt q; omega
  obtain ⟨k, ek⟩ : ∃ k : Nat, x.k = (k : Int) := ⟨x.k.toNat, by omega⟩
  obtain ⟨nh, eh⟩ : ∃ k : Nat, x.h = (k : Int) := ⟨x.h.toNat, by omega⟩
  obtain ⟨nr, er⟩ : ∃ k : Nat, x.r = (k : Int) := ⟨x.r.toNat, by omega⟩
  obtain ⟨nt, et⟩ : ∃ k : Nat, x.t = (k : Int) := ⟨x.t.toNat, by omega⟩
  obtain ⟨nf, ef⟩ : ∃ k : Nat, x.f = (k : Int) := ⟨x.f.toNat, by omega⟩
  have hB : voS x = leB k 1 ++ (varE nh ++ (varE nr ++ (x.id ++ (varE nt ++ (varE nf ++ x.se))))) := by
    unfold voS voB
    rw [ek, eh, er, et, ef]
    simp only [Int.toNat_natCast, List.append_assoc]
  rw [hB]
  rw [ek] at c0 hk1 hk2
  rw [eh] at c1 hh
  rw [er] at c2 hr0 hr1
  rw [et] at c3 ht
  rw [ef] at c4 hf
  have l1 := leB_length k 1
  have l2 := varE_le nh
  have l3 := varE_le nr
  have l4 := varE_le nt
  have l5 := varE_le nf
  have li := hok.1
  have hs := hok.2
  generalize x.id = I at *
  generalize x.se = E at *
  generalize x.cs.toArray = C at *
  have HC := shutX (fun W B (L : Laid (w.alloc (.cells C 78)) p v B 0 W) => And.intro (L.cell hb c1) (And.intro (L.cell hb c2) (And.intro (fun j u hu => L.cell hb (ci j u hu) : W.rangeAt w.heap.size 3 (I.map bv)) (And.intro (L.cell hb c3) (And.intro (L.cell hb c4) (fun j u hu => L.cell hb (cse j u hu) : W.rangeAt w.heap.size 37 (E.map bv)))))))
  have hw8 : IntKind.u8.wrap (k : Int) = (k : Int) := by rw [IntKind.wrap_u8]; omega
  have hwr : IntKind.u64.wrap (nr : Int) = (nr : Int) := by rw [IntKind.wrap_u64]; omega
  have S1 := step57 L0 k (by omega) (by omega)
  have S2 := fun W L => step62 (w0 := w.alloc (.cells C 78)) (W := W) (p := p) (v := v) (bs := bs ++ leB k 1) L nh (by omega) (by simp; omega)
  have S3 := fun W L => step62 (w0 := w.alloc (.cells C 78)) (W := W) (p := p) (v := v) (bs := bs ++ leB k 1 ++ varE nh) L nr (by omega) (by simp; omega)
  have S4 := fun W L (hx : W.rangeAt w.heap.size 3 (I.map bv)) => step71 (w0 := w.alloc (.cells C 78)) (W := W) (p := p) (v := v) (bs := bs ++ leB k 1 ++ varE nh ++ varE nr) L (.slice (some ⟨w.heap.size, 3, none⟩) 32 32) I (bs_range hx 32 li (by omega)) (by simp; omega)
  have S5 := fun W L => step62 (w0 := w.alloc (.cells C 78)) (W := W) (p := p) (v := v) (bs := bs ++ leB k 1 ++ varE nh ++ varE nr ++ I) L nt (by omega) (by simp; omega)
  have S6 := fun W L => step62 (w0 := w.alloc (.cells C 78)) (W := W) (p := p) (v := v) (bs := bs ++ leB k 1 ++ varE nh ++ varE nr ++ I ++ varE nt) L nf (by omega) (by simp; omega)
  have S7 := fun W L (hx : W.rangeAt w.heap.size 37 (E.map bv)) => step71 (w0 := w.alloc (.cells C 78)) (W := W) (p := p) (v := v) (bs := bs ++ leB k 1 ++ varE nh ++ varE nr ++ I ++ varE nt ++ varE nf) L (.slice (some ⟨w.heap.size, 37, none⟩) 16 16) E (bs_range hx 16 hs (by omega)) (by simp; omega)
  have HS := shutX (And.intro S2 (And.intro S3 (And.intro S4 (And.intro S5 (And.intro S6 S7)))))
  clear S2 S3 S4 S5 S6 S7 cse ci hs li l1 l2 l3 l4 l5 hle hB c1 c2 c3 c4 L0 h ek eh er et ef hk1 hk2 hr0 hr1 hh ht hf hok hR
  go_enter Tryd.func119, Tryd.ntmps119
  go_upto_region 2 with (go_at_call 51; refine S1.mono ?_; rintro e w1 ⟨rfl, L1⟩; have d1 := (HC.out w1 _ L1).1; clear S1)
  go_upto_region 3 with (go_at_call 63; refine (HS.out.1 _ L1).mono ?_; rintro e w2 ⟨rfl, L2⟩; have d2 := (HC.out w2 _ L2).2.1)
  go_upto_region 4 with (go_at_call 63; refine (HS.out.2.1 _ L2).mono ?_; rintro e w3 ⟨rfl, L3⟩)
  have S4 := HS.out.2.2.1 _ L3 (HC.out w3 _ L3).2.2.1
  go_upto_region 5 with (go_at_call 56; refine S4.mono ?_; rintro e w4 ⟨rfl, L4⟩; have d4 := (HC.out w4 _ L4).2.2.2.1; clear S4)
  go_upto_region 6 with (go_at_call 63; refine (HS.out.2.2.2.1 _ L4).mono ?_; rintro e w5 ⟨rfl, L5⟩; have d5 := (HC.out w5 _ L5).2.2.2.2.1)
  go_upto_region 7 with (go_at_call 63; refine (HS.out.2.2.2.2.1 _ L5).mono ?_; rintro e w6 ⟨rfl, L6⟩)
  have S7 := HS.out.2.2.2.2.2 _ L6 (HC.out w6 _ L6).2.2.2.2.2
  go_wp2_with (first | (go_at_call 56; refine S7.mono ?_; rintro e w7 ⟨rfl, L7⟩))
  go_end0
  refine ⟨rfl, ?_⟩
  have := L7.pre t0
  simpa [List.append_assoc] using this
set_option maxRecDepth 100000 in
set_option maxHeartbeats 2000000 in
theorem laySealed106 (w : World) (p : Nat) (v : Value) (bs : List UInt8) (h : Wr w p v bs 0) (x : Vt) (ho : x.fits) (hk1 : 1 ≤ x.k) (hk2 : x.k ≤ 2) (hr0 : 0 ≤ x.r) (hr1 : x.r ≤ 65535) (hle : bs.length + 1000 ≤ 140737488355328) :
    Calls Tryd.prog 106 #[.pointer (some ⟨p, 0, none⟩), .agg x.cs.toArray] w fun e w' => e = .returned (.tuple #[]) ∧ Laid w p v (bs ++ voS x) 0 w' := by
  have cr := Row.rangeZ (Row.new w x.cs.toArray 78)
  have hz := size78 ho.1
  have t0 : Turn no w (w.alloc (.cells x.cs.toArray 78)) := (Turn.refl no w).alloc _
  have C := layVote119 _ p v bs (h.turn_no t0) x ho hk1 hk2 hr0 hr1 hle
  generalize bs ++ voS x = SB at *
  generalize x.cs = D at *
  go_enter Tryd.func106, Tryd.ntmps106
  go_wp2_with (first | (guard_target =~ wpList _ _ _ ({ dst := _, op := Op.load 78 _, .. } :: _) _ _; refine wpList_load_mid rfl 78 (.tmp 3) rfl w.heap.size 0 rfl D _ cr Tryd.underlying78 rfl hz ?_) | (go_at_call 119; refine C.mono ?_; rintro e w1 ⟨rfl, L1⟩))
  go_end0
  exact ⟨rfl, L1.pre t0⟩
/-- Evidence: two votes. -/
structure Ev where
  a : Vt
  b : Vt
def Ev.fits (x : Ev) : Prop := x.a.fits ∧ x.b.fits
def Ev.cs (x : Ev) : List Value := x.a.cs ++ x.b.cs
theorem Ev.len {x : Ev} (h : x.fits) : x.cs.length = 106 := by simp [Ev.cs, x.a.len h.1.1, x.b.len h.2.1]
theorem size80 : (Tryd.prog.info? 80).map (·.size) = some 106 := by kernel_rfl
theorem Ev.info {x : Ev} (h : x.fits) : (Tryd.prog.info? 80).map (·.size) = some x.cs.length := by rw [x.len h]; exact size80
theorem Ev.one (x : Ev) : ∀ u ∈ x.cs, u.oneCell' = true := by
  intro u hu
  rcases List.mem_append.1 hu with q | q
  · exact x.a.one u q
  · exact x.b.one u q
theorem ev_range {w : World} {g o : Nat} {x : Ev} (h : x.fits) (r : w.rangeAt g o x.cs) : w.rangeAt g o x.a.cs ∧ w.rangeAt g (o + 53) x.b.cs := by
  have := range_app r
  rwa [x.a.len h.1.1] at this
/-- Evidence as bytes. -/
def evB (x : Ev) : List UInt8 := voS x.a ++ voS x.b
theorem evB_le {x : Ev} (h : x.fits) : (evB x).length ≤ 400 := by
  have := voS_le h.1.1
  have := voS_le h.2.1
  simp [evB]; omega
/-- Both votes may be laid down. -/
def Ev.lays (x : Ev) : Prop := (1 ≤ x.a.k ∧ x.a.k ≤ 2 ∧ 0 ≤ x.a.r ∧ x.a.r ≤ 65535) ∧ (1 ≤ x.b.k ∧ x.b.k ≤ 2 ∧ 0 ≤ x.b.r ∧ x.b.r ≤ 65535)
set_option maxRecDepth 100000 in
set_option maxHeartbeats 2000000 in
theorem layEvidence83 (w : World) (p : Nat) (v : Value) (bs : List UInt8) (h : Wr w p v bs 0) (x : Ev) (ho : x.fits) (hy : x.lays) (hle : bs.length + 5000 ≤ 140737488355328) :
    Calls Tryd.prog 83 #[.pointer (some ⟨p, 0, none⟩), .agg x.cs.toArray] w fun e w' => e = .returned (.tuple #[]) ∧ Laid w p v (bs ++ evB x) 0 w' := by
  obtain ⟨ra, rb⟩ := ev_range ho (Row.rangeZ (Row.new w x.cs.toArray 80))
  rw [Nat.zero_add] at rb
  have t0 : Turn no w (w.alloc (.cells x.cs.toArray 80)) := (Turn.refl no w).alloc _
  have hb : ¬ wfoot p v w.heap.size := by
    rintro (q | q)
    · have := h.lt; omega
    · have := h.own.lt q; omega
  have za := size78 ho.1.1
  have zb := size78 ho.2.1
  have C1 := laySealed106 _ p v bs (h.turn_no t0) x.a ho.1 hy.1.1 hy.1.2.1 hy.1.2.2.1 hy.1.2.2.2 (by omega)
  have C2 : ∀ W, Laid (w.alloc (.cells x.cs.toArray 80)) p v (bs ++ voS x.a) 0 W → W.rangeAt w.heap.size 53 x.b.cs ∧ Calls Tryd.prog 106 #[.pointer (some ⟨p, 0, none⟩), .agg x.b.cs.toArray] W fun e w' => e = .returned (.tuple #[]) ∧ Laid (w.alloc (.cells x.cs.toArray 80)) p v (bs ++ voS x.a ++ voS x.b) 0 w' := fun W L => by
    refine ⟨fun j u hu => L.cell hb (rb j u hu), ?_⟩
    obtain ⟨v1, k1, k2, k3⟩ := L
    have := voS_le ho.1.1
    exact (laySealed106 W p v1 _ k1 x.b ho.2 hy.2.1 hy.2.2.1 hy.2.2.2.1 hy.2.2.2.2 (by simp; omega)).mono (fun e w' ⟨q1, q2⟩ => ⟨q1, Laid.trans k1 k2 k3 q2⟩)
  have HC := shutX C2
  unfold evB
  clear C2 rb ho hy hle h hb
  generalize x.cs.toArray = C at *
  generalize x.a.cs = D1 at *
  generalize x.b.cs = D2 at *
  generalize hA1 : D1.toArray = A1 at *
  have HA1 := shutX hA1
  generalize hA2 : D2.toArray = A2 at *
  have HA2 := shutX hA2
  clear hA1 hA2
  go_enter Tryd.func83, Tryd.ntmps83
  go_upto_region 2 with (first | (guard_target =~ wpList _ _ _ ({ dst := _, op := Op.load 78 _, .. } :: _) _ _; refine wpList_load_mid rfl 78 (.tmp 5) rfl w.heap.size 0 rfl D1 _ ra Tryd.underlying78 rfl za ?_; rw [HA1.out]) | (go_at_call 106; refine C1.mono ?_; rintro e w1 ⟨rfl, L1⟩))
  clear C1
  obtain ⟨r2, C2⟩ := HC.out w1 L1
  go_wp2_with (first | (guard_target =~ wpList _ _ _ ({ dst := _, op := Op.load 78 _, .. } :: _) _ _; refine wpList_load_mid rfl 78 (.tmp 9) rfl w.heap.size 53 rfl D2 _ r2 Tryd.underlying78 rfl zb ?_; rw [HA2.out]) | (go_at_call 106; refine C2.mono ?_; rintro e w2 ⟨rfl, L2⟩))
  go_end0
  refine ⟨rfl, ?_⟩
  have := L2.pre t0
  simpa [List.append_assoc] using this
end Go.Proofs.YtgimecdmleofeaaDoor

/- EncodeTx, EncodeEvidence. -/
namespace Go.Proofs.YtgimecdmleofeaaDoor
open Go.RowKit
set_option linter.unusedVariables false

set_option maxRecDepth 100000 in
set_option maxHeartbeats 4000000 in
theorem encF49 (w : World) (D : List Value) (hz : (Tryd.prog.info? 27).map (·.size) = some D.length) (SB : List UInt8) (hSB : SB.length ≤ 1000000000) (pv : Int)
    (CP : ∀ W, Turn no w W → Calls Tryd.prog 20 #[.agg D.toArray] W fun e w' => e = .returned (.int .i64 pv) ∧ Turn no W w')
    (CL : pv = 0 → ∀ W p v (bs : List UInt8), Turn no w W → Wr W p v bs 0 → bs.length = 0 → w.heap.size ≤ p → Calls Tryd.prog 21 #[.pointer (some ⟨p, 0, none⟩), .agg D.toArray] W fun e w' => e = .returned (.tuple #[]) ∧ Laid W p v (bs ++ SB) 0 w')
    (W : World) (t : Turn no w W) :
    Calls Tryd.prog 49 #[.agg D.toArray, .func (.func 20) #[] #[], .func (.func 21) #[] #[]] W (Told W pv (if pv = 0 then SB else [])) := by
  have cr := Row.rangeZ (Row.new W D.toArray 27)
  have t0 : Turn no W (W.alloc (.cells D.toArray 27)) := (Turn.refl no W).alloc _
  have C53 := CP (W.alloc (.cells D.toArray 27)) (t.then_no t0)
  have HR := shutX (fun W1 (t : Turn no (W.alloc (.cells D.toArray 27)) W1) => (fun j u hu => t.keep (cr j u hu) (fun q => q) : W1.rangeAt W.heap.size 0 D))
  by_cases he : pv = 0
  · rw [if_pos he]
    subst he
    have C56 : ∀ W1 W2, Turn no (W.alloc (.cells D.toArray 27)) W1 → Wr W2 W1.heap.size (.slice none 0 0) [] 0 → Turn no W1 W2 → Calls Tryd.prog 21 #[.pointer (some ⟨W1.heap.size, 0, none⟩), .agg D.toArray] W2 fun e w' => e = .returned (.tuple #[]) ∧ Laid W2 W1.heap.size (.slice none 0 0) SB 0 w' := fun W1 W2 t1 h t2 => by
      have T1 := t0.then_no t1
      have T2 := t.then_no (T1.then_no t2)
      have := CL rfl W2 W1.heap.size (.slice none 0 0) [] T2 h rfl (by have := t.size; have := T1.size; omega)
      simpa using this
    have C111 := fun W p v h => out_made W p v SB h (by omega)
    have HH := shutX (And.intro C56 C111)
    clear C56 C111 CP CL
    generalize hA : D.toArray = A at *
    have HA := shutX hA
    clear hA
    go_enter Tryd.func49, Tryd.ntmps49
    go_upto_region 4 with (first | (guard_target =~ wpList _ _ _ ({ dst := _, op := Op.load 27 _, .. } :: _) _ _; refine wpList_load_mid rfl 27 (.tmp 3) rfl W.heap.size 0 rfl D _ cr Tryd.underlying27 rfl hz ?_; rw [HA.out]) | (go_at_call 20; refine C53.mono ?_; rintro e w1 ⟨rfl, t1⟩))
    clear C53
    go_upto_region 5 with (go_at_call 90; refine (newWriter_any w1).mono ?_; rintro e w2 ⟨rfl, k2, t2⟩)
    have cr2 := HR.out w2 (t1.then_no t2)
    have C := HH.out.1 w1 w2 t1 k2 t2
    go_upto_region 6 with (first | (guard_target =~ wpList _ _ _ ({ dst := _, op := Op.load 27 _, .. } :: _) _ _; refine wpList_load_mid rfl 27 (.tmp 3) rfl W.heap.size 0 rfl D _ cr2 Tryd.underlying27 rfl hz ?_; rw [HA.out]) | (go_at_call 21; refine C.mono ?_; rintro e w3 ⟨rfl, L3⟩))
    clear C
    obtain ⟨v3, k3, tt3, nn3⟩ := L3
    have C := HH.out.2 w3 _ _ k3
    have t3 : Turn no w1 w3 := t2.trans tt3 (fun i hi q => by
      rcases q with q | q
      · omega
      · cases q)
    go_wp2_with (go_at_call 91; refine C.mono ?_; rintro e w4 ⟨v4, rfl, o4, n4, t4⟩; obtain ⟨a4, l4, c4, rfl⟩ := o4.form)
    go_ret2
    have tA := (t0.then_no t1).then_no t3
    exact ⟨_, rfl, o4, fun g hg => Nat.le_trans tA.size (n4 g hg), tA.then_no t4⟩
  · rw [if_neg he]
    have n1 : (pv != 0) = true := by simpa using he
    clear CP CL he HR
    generalize hA : D.toArray = A at *
    have HA := shutX hA
    clear hA
    go_enter Tryd.func49, Tryd.ntmps49
    go_wp2_with (first | (guard_target =~ wpList _ _ _ ({ dst := _, op := Op.load 27 _, .. } :: _) _ _; refine wpList_load_mid rfl 27 (.tmp 3) rfl W.heap.size 0 rfl D _ cr Tryd.underlying27 rfl hz ?_; rw [HA.out]) | (go_at_call 20; refine C53.mono ?_; clear C53; rintro e w1 ⟨rfl, t1⟩))
    go_ret2
    exact ⟨_, rfl, Own.nil _ _, (fun g hg => by cases hg), t0.then_no t1⟩
set_option maxRecDepth 100000 in
set_option maxHeartbeats 4000000 in
theorem encX41 (w : World) (D : List Value) (hz : (Tryd.prog.info? 27).map (·.size) = some D.length) (SB : List UInt8) (hSB : SB.length ≤ 1000000000) (pv : Int)
    (CP : ∀ W, Turn no w W → Calls Tryd.prog 20 #[.agg D.toArray] W fun e w' => e = .returned (.int .i64 pv) ∧ Turn no W w')
    (CL : pv = 0 → ∀ W p v (bs : List UInt8), Turn no w W → Wr W p v bs 0 → bs.length = 0 → w.heap.size ≤ p → Calls Tryd.prog 21 #[.pointer (some ⟨p, 0, none⟩), .agg D.toArray] W fun e w' => e = .returned (.tuple #[]) ∧ Laid W p v (bs ++ SB) 0 w') :
    Calls Tryd.prog 41 #[.agg D.toArray] w (Told w pv (if pv = 0 then SB else [])) := by
  have cr := Row.rangeZ (Row.new w D.toArray 27)
  have t0 : Turn no w (w.alloc (.cells D.toArray 27)) := (Turn.refl no w).alloc _
  have C := encF49 w D hz SB hSB pv CP CL (w.alloc (.cells D.toArray 27)) t0
  generalize (if pv = 0 then SB else []) = R at *
  clear CP CL
  generalize hA : D.toArray = A at *
  have HA := shutX hA
  clear hA
  go_enter Tryd.func41, Tryd.ntmps41
  go_wp2_with (first | (guard_target =~ wpList _ _ _ ({ dst := _, op := Op.load 27 _, .. } :: _) _ _; refine wpList_load_mid rfl 27 (.tmp 1) rfl w.heap.size 0 rfl D _ cr Tryd.underlying27 rfl hz ?_; rw [HA.out]) | (go_at_call 49; refine C.mono ?_; clear C; rintro e w4 ⟨v4, rfl, o4, n4, t4⟩; obtain ⟨a4, l4, c4, rfl⟩ := o4.form))
  go_ret2
  exact ⟨_, rfl, o4, fun g hg => Nat.le_trans t0.size (n4 g hg), t0.then_no t4⟩
set_option maxRecDepth 100000 in
set_option maxHeartbeats 4000000 in
theorem encF81 (w : World) (D : List Value) (hz : (Tryd.prog.info? 80).map (·.size) = some D.length) (SB : List UInt8) (hSB : SB.length ≤ 1000000000) (pv : Int)
    (CP : ∀ W, Turn no w W → Calls Tryd.prog 82 #[.agg D.toArray] W fun e w' => e = .returned (.int .i64 pv) ∧ Turn no W w')
    (CL : pv = 0 → ∀ W p v (bs : List UInt8), Turn no w W → Wr W p v bs 0 → bs.length = 0 → w.heap.size ≤ p → Calls Tryd.prog 83 #[.pointer (some ⟨p, 0, none⟩), .agg D.toArray] W fun e w' => e = .returned (.tuple #[]) ∧ Laid W p v (bs ++ SB) 0 w')
    (W : World) (t : Turn no w W) :
    Calls Tryd.prog 81 #[.agg D.toArray, .func (.func 82) #[] #[], .func (.func 83) #[] #[]] W (Told W pv (if pv = 0 then SB else [])) := by
  have cr := Row.rangeZ (Row.new W D.toArray 80)
  have t0 : Turn no W (W.alloc (.cells D.toArray 80)) := (Turn.refl no W).alloc _
  have C53 := CP (W.alloc (.cells D.toArray 80)) (t.then_no t0)
  have HR := shutX (fun W1 (t : Turn no (W.alloc (.cells D.toArray 80)) W1) => (fun j u hu => t.keep (cr j u hu) (fun q => q) : W1.rangeAt W.heap.size 0 D))
  by_cases he : pv = 0
  · rw [if_pos he]
    subst he
    have C56 : ∀ W1 W2, Turn no (W.alloc (.cells D.toArray 80)) W1 → Wr W2 W1.heap.size (.slice none 0 0) [] 0 → Turn no W1 W2 → Calls Tryd.prog 83 #[.pointer (some ⟨W1.heap.size, 0, none⟩), .agg D.toArray] W2 fun e w' => e = .returned (.tuple #[]) ∧ Laid W2 W1.heap.size (.slice none 0 0) SB 0 w' := fun W1 W2 t1 h t2 => by
      have T1 := t0.then_no t1
      have T2 := t.then_no (T1.then_no t2)
      have := CL rfl W2 W1.heap.size (.slice none 0 0) [] T2 h rfl (by have := t.size; have := T1.size; omega)
      simpa using this
    have C111 := fun W p v h => out_made W p v SB h (by omega)
    have HH := shutX (And.intro C56 C111)
    clear C56 C111 CP CL
    generalize hA : D.toArray = A at *
    have HA := shutX hA
    clear hA
    go_enter Tryd.func81, Tryd.ntmps81
    go_upto_region 4 with (first | (guard_target =~ wpList _ _ _ ({ dst := _, op := Op.load 80 _, .. } :: _) _ _; refine wpList_load_mid rfl 80 (.tmp 3) rfl W.heap.size 0 rfl D _ cr Tryd.underlying80 rfl hz ?_; rw [HA.out]) | (go_at_call 82; refine C53.mono ?_; rintro e w1 ⟨rfl, t1⟩))
    clear C53
    go_upto_region 5 with (go_at_call 90; refine (newWriter_any w1).mono ?_; rintro e w2 ⟨rfl, k2, t2⟩)
    have cr2 := HR.out w2 (t1.then_no t2)
    have C := HH.out.1 w1 w2 t1 k2 t2
    go_upto_region 6 with (first | (guard_target =~ wpList _ _ _ ({ dst := _, op := Op.load 80 _, .. } :: _) _ _; refine wpList_load_mid rfl 80 (.tmp 3) rfl W.heap.size 0 rfl D _ cr2 Tryd.underlying80 rfl hz ?_; rw [HA.out]) | (go_at_call 83; refine C.mono ?_; rintro e w3 ⟨rfl, L3⟩))
    clear C
    obtain ⟨v3, k3, tt3, nn3⟩ := L3
    have C := HH.out.2 w3 _ _ k3
    have t3 : Turn no w1 w3 := t2.trans tt3 (fun i hi q => by
      rcases q with q | q
      · omega
      · cases q)
    go_wp2_with (go_at_call 91; refine C.mono ?_; rintro e w4 ⟨v4, rfl, o4, n4, t4⟩; obtain ⟨a4, l4, c4, rfl⟩ := o4.form)
    go_ret2
    have tA := (t0.then_no t1).then_no t3
    exact ⟨_, rfl, o4, fun g hg => Nat.le_trans tA.size (n4 g hg), tA.then_no t4⟩
  · rw [if_neg he]
    have n1 : (pv != 0) = true := by simpa using he
    clear CP CL he HR
    generalize hA : D.toArray = A at *
    have HA := shutX hA
    clear hA
    go_enter Tryd.func81, Tryd.ntmps81
    go_wp2_with (first | (guard_target =~ wpList _ _ _ ({ dst := _, op := Op.load 80 _, .. } :: _) _ _; refine wpList_load_mid rfl 80 (.tmp 3) rfl W.heap.size 0 rfl D _ cr Tryd.underlying80 rfl hz ?_; rw [HA.out]) | (go_at_call 82; refine C53.mono ?_; clear C53; rintro e w1 ⟨rfl, t1⟩))
    go_ret2
    exact ⟨_, rfl, Own.nil _ _, (fun g hg => by cases hg), t0.then_no t1⟩
set_option maxRecDepth 100000 in
set_option maxHeartbeats 4000000 in
theorem encX43 (w : World) (D : List Value) (hz : (Tryd.prog.info? 80).map (·.size) = some D.length) (SB : List UInt8) (hSB : SB.length ≤ 1000000000) (pv : Int)
    (CP : ∀ W, Turn no w W → Calls Tryd.prog 82 #[.agg D.toArray] W fun e w' => e = .returned (.int .i64 pv) ∧ Turn no W w')
    (CL : pv = 0 → ∀ W p v (bs : List UInt8), Turn no w W → Wr W p v bs 0 → bs.length = 0 → w.heap.size ≤ p → Calls Tryd.prog 83 #[.pointer (some ⟨p, 0, none⟩), .agg D.toArray] W fun e w' => e = .returned (.tuple #[]) ∧ Laid W p v (bs ++ SB) 0 w') :
    Calls Tryd.prog 43 #[.agg D.toArray] w (Told w pv (if pv = 0 then SB else [])) := by
  have cr := Row.rangeZ (Row.new w D.toArray 80)
  have t0 : Turn no w (w.alloc (.cells D.toArray 80)) := (Turn.refl no w).alloc _
  have C := encF81 w D hz SB hSB pv CP CL (w.alloc (.cells D.toArray 80)) t0
  generalize (if pv = 0 then SB else []) = R at *
  clear CP CL
  generalize hA : D.toArray = A at *
  have HA := shutX hA
  clear hA
  go_enter Tryd.func43, Tryd.ntmps43
  go_wp2_with (first | (guard_target =~ wpList _ _ _ ({ dst := _, op := Op.load 80 _, .. } :: _) _ _; refine wpList_load_mid rfl 80 (.tmp 1) rfl w.heap.size 0 rfl D _ cr Tryd.underlying80 rfl hz ?_; rw [HA.out]) | (go_at_call 81; refine C.mono ?_; clear C; rintro e w4 ⟨v4, rfl, o4, n4, t4⟩; obtain ⟨a4, l4, c4, rfl⟩ := o4.form))
  go_ret2
  exact ⟨_, rfl, o4, fun g hg => Nat.le_trans t0.size (n4 g hg), t0.then_no t4⟩
/-- What a transaction's form is, if it is plain. -/
def txF (x : Tx) : List UInt8 := if plainT x = 0 then txB x ++ x.se else []
theorem txS_le {x : Tx} (h : x.ok) : (txB x ++ x.se).length ≤ 1000 := by
  have := varE_le x.fr
  have := varE_le x.to
  have := varE_le x.am
  have := varE_le x.fe
  have := varE_le x.no
  have := leB_length x.k.toNat 1
  have := h.1
  simp [txB]
  omega
theorem encodeTx41 (w : World) (x : Tx) (ho : x.ok) : Calls Tryd.prog 41 #[.agg x.cs.toArray] w (Told w (plainT x) (txF x)) :=
  encX41 w x.cs (by rw [x.len ho]; exact size27) _ (by have := txS_le ho; omega) (plainT x) (fun W _ => plain27 W x) (fun h0 W p v bs _ hw hb _ => laySealed21 W p v bs hw x ho (plainT_kind h0).1 (plainT_kind h0).2 (by omega))
end Go.Proofs.YtgimecdmleofeaaDoor

/- vote of the document, with its seal. -/
namespace Go.Proofs.YtgimecdmleofeaaDoor
open Go.RowKit
set_option linter.unusedVariables false

def voB' (b0 : UInt8) (nh nr : Nat) (X : List UInt8) (nt nf : Nat) (E : List UInt8) : List UInt8 := [b0] ++ (varE nh ++ (varE nr ++ (X ++ (varE nt ++ (varE nf ++ E)))))
set_option maxRecDepth 100000 in
set_option maxHeartbeats 8000000 in
theorem vote89 (w : World) (x : Vt) (ho : x.fits) (hk1 : 1 ≤ x.k) (hk4 : x.k ≤ 2) (hr1 : 0 ≤ x.r) (hr2 : x.r ≤ 65535) : Calls Tryd.prog 89 #[.agg x.cs.toArray, .bool true] w fun e w' => ∃ v, e = .returned v ∧ Fr w w' v (voS x) := by
  obtain ⟨hok, hh, ht, hf⟩ := ho
  have hR := Row.new w x.cs.toArray 78
  obtain ⟨c0, c1, c2, c3, c4, ci⟩ := hR.vt hok
  obtain ⟨b0, hb0⟩ : ∃ b0 : UInt8, x.k = (b0.toNat : Int) := ⟨UInt8.ofNat x.k.toNat, by simp; omega⟩
  obtain ⟨nh, eh⟩ : ∃ k : Nat, x.h = (k : Int) := ⟨x.h.toNat, by omega⟩
  obtain ⟨nr, er⟩ : ∃ k : Nat, x.r = (k : Int) := ⟨x.r.toNat, by omega⟩
  obtain ⟨nt, et⟩ : ∃ k : Nat, x.t = (k : Int) := ⟨x.t.toNat, by omega⟩
  obtain ⟨nf, ef⟩ : ∃ k : Nat, x.f = (k : Int) := ⟨x.f.toNat, by omega⟩
  have hB : voS x = voB' b0 nh nr x.id nt nf x.se := by
    unfold voS voB voB'
    rw [hb0, eh, er, et, ef]
    simp only [Int.toNat_natCast, List.append_assoc]
    have : leB b0.toNat 1 = [b0] := by simp [leB]
    rw [this]
  rw [hB]
  have hsl : (Tryd.prog.info? 25).map (·.size) = some (x.se.map bv).length := by rw [List.length_map, hok.2]; kernel_rfl
  have hil : (Tryd.prog.info? 29).map (·.size) = some (x.id.map bv).length := by rw [List.length_map, hok.1]; exact size24
  have cs : (w.alloc (.cells x.cs.toArray 78)).rangeAt w.heap.size 37 (x.se.map bv) := fun j u hu => hR.cell (37 + j) u (Vt.cse hok j u hu)
  rw [hb0] at c0
  rw [eh] at c1 hh
  rw [er] at c2 hr1 hr2
  rw [et] at c3 ht
  rw [ef] at c4 hf
  have hb8 := b0.toNat_lt
  have hw8 : IntKind.u8.wrap (b0.toNat : Int) = (b0.toNat : Int) := by rw [IntKind.wrap_u8]; omega
  have hwr : IntKind.u64.wrap (nr : Int) = (nr : Int) := by rw [IntKind.wrap_u64]; omega
  have l1 := varE_le nh
  have l2 := varE_le nr
  have l3 := varE_le nt
  have l4 := varE_le nf
  have l5 := hok.1
  have l6 := hok.2
  generalize x.id = X at *
  generalize x.se = E at *
  generalize x.cs.toArray = C at *
  have t0 : Turn no w (w.alloc (.cells C 78)) := (Turn.refl no w).alloc _
  obtain ⟨w1, hw1⟩ : ∃ W, w.alloc (.cells C 78) = W := ⟨_, rfl⟩
  rw [hw1] at t0 c0 c1 c2 c3 c4 ci cs
  have Hc := shutX (fun W (t : Turn no w1 W) => And.intro (t.keep c0 (fun q => q)) (And.intro (t.keep c1 (fun q => q)) (And.intro (t.keep c2 (fun q => q)) (And.intro (t.keep c3 (fun q => q)) (And.intro (t.keep c4 (fun q => q)) (And.intro (fun j u hu => t.keep (ci j u hu) (fun q => q) : W.rangeAt w.heap.size 3 (X.map bv)) (fun j u hu => t.keep (cs j u hu) (fun q => q) : W.rangeAt w.heap.size 37 (E.map bv))))))))
  have HN := shutX (And.intro (fun W => num79 W nh (by omega)) (And.intro (fun W => num79 W nr (by omega)) (And.intro (fun W => hash78 W X l5) (And.intro (fun W => num79 W nt (by omega)) (And.intro (fun W => num79 W nf (by omega)) (fun W => sealed74 W E l6))))))
  clear hh ht hf hr1 hr2 c0 c1 c2 c3 c4 ci cs hk1 hk4 hb8 hb0 hB eh er et ef hok hR
  go_enter Tryd.func89, Tryd.ntmps89
  go_upto_region 1 with fail
  try rw [hw1]
  obtain ⟨b, hbb⟩ : ∃ b, w.heap.size = b := ⟨_, rfl⟩
  rw [hbb] at Hc
  try rw [hbb]
  have Hbb := shutX hbb
  clear hbb hw1
  refine wp_region_held_drew (S := fun W => Turn no w1 W) (by kernel_rfl) (Turn.refl no w1).drew (fun hHeld => ?_)
  refine' wpAnyH_take (i := 0) (v := .pointer (some ⟨b, 0, none⟩)) rfl (by kernel_rfl) (by kernel_rfl) (by kernel_rfl) (fun _ _ _ h => h) (Or.inl ⟨by kernel_rfl, fun W hW => ?yq1⟩) hHeld ?rq1
  · go_simp
  refine' wpAnyH_take (i := 1) (v := .int .i64 b0.toNat) rfl (by kernel_rfl) (by kernel_rfl) (by kernel_rfl) (fun _ _ _ h => h) (Or.inl ⟨by kernel_rfl, fun W hW => ?yq2⟩) hHeld ?rq2
  · obtain ⟨z0, z1, z2, z3, z4, z5, z6⟩ := Hc.out W hW
    go_simp
  refine' wpAnyH_take (i := 2) (v := .int .u8 b0.toNat) rfl (by kernel_rfl) (by kernel_rfl) (by kernel_rfl) (fun _ _ _ h => h) (Or.inl ⟨by kernel_rfl, fun W hW => ?yq3⟩) hHeld ?rq3
  · go_simp
  refine' wpAnyH_take (i := 4) (v := .pointer (some ⟨b, 1, none⟩)) rfl (by kernel_rfl) (by kernel_rfl) (by kernel_rfl) (fun _ _ _ h => h) (Or.inl ⟨by kernel_rfl, fun W hW => ?yq4⟩) hHeld ?rq4
  · go_simp
  refine' wpAnyH_take (i := 5) (v := .int .u64 nh) rfl (by kernel_rfl) (by kernel_rfl) (by kernel_rfl) (fun _ _ _ h => h) (Or.inl ⟨by kernel_rfl, fun W hW => ?yq5⟩) hHeld ?rq5
  · obtain ⟨z0, z1, z2, z3, z4, z5, z6⟩ := Hc.out W hW
    go_simp
  refine' wpAnyH_take (i := 7) (v := .pointer (some ⟨b, 2, none⟩)) rfl (by kernel_rfl) (by kernel_rfl) (by kernel_rfl) (fun _ _ _ h => h) (Or.inl ⟨by kernel_rfl, fun W hW => ?yq6⟩) hHeld ?rq6
  · go_simp
  refine' wpAnyH_take (i := 8) (v := .int .i64 nr) rfl (by kernel_rfl) (by kernel_rfl) (by kernel_rfl) (fun _ _ _ h => h) (Or.inl ⟨by kernel_rfl, fun W hW => ?yq7⟩) hHeld ?rq7
  · obtain ⟨z0, z1, z2, z3, z4, z5, z6⟩ := Hc.out W hW
    go_simp
  refine' wpAnyH_take (i := 9) (v := .int .u64 nr) rfl (by kernel_rfl) (by kernel_rfl) (by kernel_rfl) (fun _ _ _ h => h) (Or.inl ⟨by kernel_rfl, fun W hW => ?yq8⟩) hHeld ?rq8
  · go_simp
  refine' wpAnyH_take (i := 11) (v := .pointer (some ⟨b, 3, none⟩)) rfl (by kernel_rfl) (by kernel_rfl) (by kernel_rfl) (fun _ _ _ h => h) (Or.inl ⟨by kernel_rfl, fun W hW => ?yq9⟩) hHeld ?rq9
  · go_simp
  refine' wpAnyH_take (i := 12) (v := .agg (X.map bv).toArray) rfl (by kernel_rfl) (by kernel_rfl) (by kernel_rfl) (fun _ _ _ h => h) (yieldsIf_load_mid (by kernel_rfl) 29 (.tmp 16) rfl b 3 (by kernel_rfl) (X.map bv) _ (fun W h => (Hc.out W h).2.2.2.2.2.1) Tryd.underlying29 rfl hil) hHeld ?sq10
  refine' wpAnyH_take (i := 14) (v := .pointer (some ⟨b, 35, none⟩)) rfl (by kernel_rfl) (by kernel_rfl) (by kernel_rfl) (fun _ _ _ h => h) (Or.inl ⟨by kernel_rfl, fun W hW => ?yq11⟩) hHeld ?rq11
  · go_simp
  refine' wpAnyH_take (i := 15) (v := .int .u64 nt) rfl (by kernel_rfl) (by kernel_rfl) (by kernel_rfl) (fun _ _ _ h => h) (Or.inl ⟨by kernel_rfl, fun W hW => ?yq12⟩) hHeld ?rq12
  · obtain ⟨z0, z1, z2, z3, z4, z5, z6⟩ := Hc.out W hW
    go_simp
  refine' wpAnyH_take (i := 17) (v := .pointer (some ⟨b, 36, none⟩)) rfl (by kernel_rfl) (by kernel_rfl) (by kernel_rfl) (fun _ _ _ h => h) (Or.inl ⟨by kernel_rfl, fun W hW => ?yq13⟩) hHeld ?rq13
  · go_simp
  refine' wpAnyH_take (i := 18) (v := .int .u64 nf) rfl (by kernel_rfl) (by kernel_rfl) (by kernel_rfl) (fun _ _ _ h => h) (Or.inl ⟨by kernel_rfl, fun W hW => ?yq14⟩) hHeld ?rq14
  · obtain ⟨z0, z1, z2, z3, z4, z5, z6⟩ := Hc.out W hW
    go_simp
  refine' wpAnyH_take (i := 20) (v := .pointer (some ⟨b, 37, none⟩)) rfl (by kernel_rfl) (by kernel_rfl) (by kernel_rfl) (fun _ _ _ h => h) (Or.inl ⟨by kernel_rfl, fun W hW => ?yq15⟩) hHeld ?rq15
  · go_simp
  refine' wpAnyH_take (i := 21) (v := .agg (E.map bv).toArray) rfl (by kernel_rfl) (by kernel_rfl) (by kernel_rfl) (fun _ _ _ h => h) (yieldsIf_load_mid (by kernel_rfl) 25 (.tmp 25) rfl b 37 (by kernel_rfl) (E.map bv) _ (fun W h => (Hc.out W h).2.2.2.2.2.2) Tryd.underlying25 rfl hsl) hHeld ?sq16
  refine' wpAnyH_take (i := 22) (v := .bool true) rfl (by kernel_rfl) (by kernel_rfl) (by kernel_rfl) (fun _ _ _ h => h) (Or.inl ⟨by kernel_rfl, fun W hW => ?yq17⟩) hHeld ?rq17
  · go_simp
  obtain ⟨X0, hX0⟩ : ∃ X, w1.drew = X := ⟨_, rfl⟩
  rw [hX0] at hHeld ⊢
  clear hX0
  refine wpAnyH_ready (rs := [3, 6]) (by kernel_rfl) (by simp) ?_
  refine AllReadyH.cons rfl (fun K hK => ?_) (AllReadyH.cons rfl (fun K hK => ?_) AllReadyH.nil)
  · skip
    go_simp
    have h20 := fr_one X0 b0
    obtain ⟨X18, eX18⟩ : ∃ X, World.alloc X0 (.cells #[.int .u8 b0.toNat] 5) = X := ⟨_, rfl⟩
    have T19 : Turn no X0 X18 := by rw [← eX18]; exact (Turn.refl no X0).alloc _
    have b21 : Bs X18 (.slice (some ⟨X0.heap.size, 0, none⟩) 1 1) [b0] := by rw [← eX18]; exact h20.own.bs
    have HX18 := hHeld.then_no T19
    try rw [eX18]
    refine hK.out _ _ HX18 (fun hHeld => ?_)
    clear hK h20 eX18
    obtain ⟨z22, ez22⟩ : ∃ z, X0.heap.size = z := ⟨_, rfl⟩
    rw [ez22] at b21
    try rw [ez22]
    clear ez22
    refine wpAnyH_ready (rs := [6]) (by kernel_rfl) (by simp) ?_
    refine AllReadyH.cons rfl (fun K hK => ?_) AllReadyH.nil
    go_simp
    refine (HN.out.1 X18).mono ?_
    rintro e X23 ⟨v24, rfl, F25⟩
    obtain ⟨a26, l27, c28, rfl⟩ := F25.form
    have b29 := F25.own.bs
    refine hK.out _ _ (hHeld.then_no F25.turn) (fun hHeld => ?_)
    clear hK
    have b30 := b21.turn_no F25.turn
    refine wpAnyH_ready (rs := [10]) (by kernel_rfl) (by simp) ?_
    refine AllReadyH.cons rfl (fun K hK => ?_) AllReadyH.nil
    go_simp
    refine (HN.out.2.1 X23).mono ?_
    rintro e X31 ⟨v32, rfl, F33⟩
    obtain ⟨a34, l35, c36, rfl⟩ := F33.form
    have b37 := F33.own.bs
    refine hK.out _ _ (hHeld.then_no F33.turn) (fun hHeld => ?_)
    clear hK
    have b38 := b30.turn_no F33.turn
    have b39 := b29.turn_no F33.turn
    refine wpAnyH_ready (rs := [13]) (by kernel_rfl) (by simp) ?_
    refine AllReadyH.cons rfl (fun K hK => ?_) AllReadyH.nil
    go_simp
    refine (HN.out.2.2.1 X31).mono ?_
    rintro e X40 ⟨v41, rfl, F42⟩
    obtain ⟨a43, l44, c45, rfl⟩ := F42.form
    have b46 := F42.own.bs
    refine hK.out _ _ (hHeld.then_no F42.turn) (fun hHeld => ?_)
    clear hK
    have b47 := b38.turn_no F42.turn
    have b48 := b39.turn_no F42.turn
    have b49 := b37.turn_no F42.turn
    refine wpAnyH_ready (rs := [16]) (by kernel_rfl) (by simp) ?_
    refine AllReadyH.cons rfl (fun K hK => ?_) AllReadyH.nil
    go_simp
    refine (HN.out.2.2.2.1 X40).mono ?_
    rintro e X50 ⟨v51, rfl, F52⟩
    obtain ⟨a53, l54, c55, rfl⟩ := F52.form
    have b56 := F52.own.bs
    refine hK.out _ _ (hHeld.then_no F52.turn) (fun hHeld => ?_)
    clear hK
    have b57 := b47.turn_no F52.turn
    have b58 := b48.turn_no F52.turn
    have b59 := b49.turn_no F52.turn
    have b60 := b46.turn_no F52.turn
    refine wpAnyH_ready (rs := [19]) (by kernel_rfl) (by simp) ?_
    refine AllReadyH.cons rfl (fun K hK => ?_) AllReadyH.nil
    go_simp
    refine (HN.out.2.2.2.2.1 X50).mono ?_
    rintro e X61 ⟨v62, rfl, F63⟩
    obtain ⟨a64, l65, c66, rfl⟩ := F63.form
    have b67 := F63.own.bs
    refine hK.out _ _ (hHeld.then_no F63.turn) (fun hHeld => ?_)
    clear hK
    have b68 := b57.turn_no F63.turn
    have b69 := b58.turn_no F63.turn
    have b70 := b59.turn_no F63.turn
    have b71 := b60.turn_no F63.turn
    have b72 := b56.turn_no F63.turn
    refine wpAnyH_ready (rs := [23]) (by kernel_rfl) (by simp) ?_
    refine AllReadyH.cons rfl (fun K hK => ?_) AllReadyH.nil
    go_simp
    refine (HN.out.2.2.2.2.2 X61).mono ?_
    rintro e X73 ⟨v74, rfl, F75⟩
    obtain ⟨a76, l77, c78, rfl⟩ := F75.form
    have b79 := F75.own.bs
    refine hK.out _ _ (hHeld.then_no F75.turn) (fun hHeld => ?_)
    clear hK
    have b80 := b68.turn_no F75.turn
    have b81 := b69.turn_no F75.turn
    have b82 := b70.turn_no F75.turn
    have b83 := b71.turn_no F75.turn
    have b84 := b72.turn_no F75.turn
    have b85 := b67.turn_no F75.turn
    refine wpAnyH_ready (rs := [24]) (by kernel_rfl) (by simp) ?_
    refine AllReadyH.cons rfl (fun K hK => ?_) AllReadyH.nil
    go_simp
    have R87 := Row.new X73 #[.slice (some ⟨z22, 0, none⟩) 1 1, .slice a26 l27 c28, .slice a34 l35 c36, .slice a43 l44 c45, .slice a53 l54 c55, .slice a64 l65 c66, .slice a76 l77 c78] 70
    have T86 : Turn no X73 (World.alloc X73 (.cells #[.slice (some ⟨z22, 0, none⟩) 1 1, .slice a26 l27 c28, .slice a34 l35 c36, .slice a43 l44 c45, .slice a53 l54 c55, .slice a64 l65 c66, .slice a76 l77 c78] 70)) := (Turn.refl no X73).alloc _
    have J := join78 (World.alloc X73 (.cells #[.slice (some ⟨z22, 0, none⟩) 1 1, .slice a26 l27 c28, .slice a34 l35 c36, .slice a43 l44 c45, .slice a53 l54 c55, .slice a64 l65 c66, .slice a76 l77 c78] 70)) X73.heap.size 7 [(.slice (some ⟨z22, 0, none⟩) 1 1, [b0]), (.slice a26 l27 c28, varE nh), (.slice a34 l35 c36, varE nr), (.slice a43 l44 c45, X), (.slice a53 l54 c55, varE nt), (.slice a64 l65 c66, varE nf), (.slice a76 l77 c78, E)] (by
      intro j x hx
      match j, hx with
      | 0, hx => simp at hx; subst hx; exact ⟨R87.cell 0 _ rfl, b80.turn_no T86⟩
      | 1, hx => simp at hx; subst hx; exact ⟨R87.cell 1 _ rfl, b81.turn_no T86⟩
      | 2, hx => simp at hx; subst hx; exact ⟨R87.cell 2 _ rfl, b82.turn_no T86⟩
      | 3, hx => simp at hx; subst hx; exact ⟨R87.cell 3 _ rfl, b83.turn_no T86⟩
      | 4, hx => simp at hx; subst hx; exact ⟨R87.cell 4 _ rfl, b84.turn_no T86⟩
      | 5, hx => simp at hx; subst hx; exact ⟨R87.cell 5 _ rfl, b85.turn_no T86⟩
      | 6, hx => simp at hx; subst hx; exact ⟨R87.cell 6 _ rfl, b79.turn_no T86⟩
      | n + 7, hx => simp at hx) (by simp) (by simp [catL]; omega)
    refine hK.out _ _ (hHeld.then_no T86) (fun hHeld => ?_)
    clear hK
    refine wpAnyH_ready (rs := [25]) (by kernel_rfl) (by simp) ?_
    refine AllReadyH.cons rfl (fun K hK => ?_) AllReadyH.nil
    go_simp
    refine J.mono ?_
    rintro e X93 ⟨v88, rfl, F89⟩
    obtain ⟨a90, l91, c92, rfl⟩ := F89.form
    have hT := hHeld.then_no F89.turn
    refine hK.out _ _ hT (fun hHeld => ?_)
    clear hK J
    refine wpAnyH_ready (rs := [26]) (by kernel_rfl) (by simp) ?_
    refine AllReadyH.cons rfl (fun K hK => ?_) AllReadyH.nil
    go_simp
    refine hK.out _ _ hHeld (fun hHeld => ?_)
    clear hK
    refine wpAnyH_done (by kernel_rfl) ?_ _
    go_simp
    go_wp2_with fail
    go_ret
    exact ⟨_, rfl, by simpa [catL, voB'] using F89.own, fun g hg => fin_new t0 (by assumption) ⟨F89.own, fun g hg => Nat.le_trans T86.size (F89.new g hg), T86.then_no F89.turn⟩ g hg, t0.then_no hHeld⟩
  · skip
    go_simp
    refine (HN.out.1 X0).mono ?_
    rintro e X94 ⟨v95, rfl, F96⟩
    obtain ⟨a97, l98, c99, rfl⟩ := F96.form
    have b100 := F96.own.bs
    refine hK.out _ _ (hHeld.then_no F96.turn) (fun hHeld => ?_)
    clear hK
    refine wpAnyH_ready (rs := [3, 10]) (by kernel_rfl) (by simp) ?_
    refine AllReadyH.cons rfl (fun K hK => ?_) (AllReadyH.cons rfl (fun K hK => ?_) AllReadyH.nil)
    · skip
      go_simp
      have h103 := fr_one X94 b0
      obtain ⟨X101, eX101⟩ : ∃ X, World.alloc X94 (.cells #[.int .u8 b0.toNat] 5) = X := ⟨_, rfl⟩
      have T102 : Turn no X94 X101 := by rw [← eX101]; exact (Turn.refl no X94).alloc _
      have b104 : Bs X101 (.slice (some ⟨X94.heap.size, 0, none⟩) 1 1) [b0] := by rw [← eX101]; exact h103.own.bs
      have HX101 := hHeld.then_no T102
      try rw [eX101]
      refine hK.out _ _ HX101 (fun hHeld => ?_)
      clear hK h103 eX101
      have b106 := b100.turn_no T102
      obtain ⟨z105, ez105⟩ : ∃ z, X94.heap.size = z := ⟨_, rfl⟩
      rw [ez105] at b104
      try rw [ez105]
      clear ez105
      refine wpAnyH_ready (rs := [10]) (by kernel_rfl) (by simp) ?_
      refine AllReadyH.cons rfl (fun K hK => ?_) AllReadyH.nil
      go_simp
      refine (HN.out.2.1 X101).mono ?_
      rintro e X107 ⟨v108, rfl, F109⟩
      obtain ⟨a110, l111, c112, rfl⟩ := F109.form
      have b113 := F109.own.bs
      refine hK.out _ _ (hHeld.then_no F109.turn) (fun hHeld => ?_)
      clear hK
      have b114 := b106.turn_no F109.turn
      have b115 := b104.turn_no F109.turn
      refine wpAnyH_ready (rs := [13]) (by kernel_rfl) (by simp) ?_
      refine AllReadyH.cons rfl (fun K hK => ?_) AllReadyH.nil
      go_simp
      refine (HN.out.2.2.1 X107).mono ?_
      rintro e X116 ⟨v117, rfl, F118⟩
      obtain ⟨a119, l120, c121, rfl⟩ := F118.form
      have b122 := F118.own.bs
      refine hK.out _ _ (hHeld.then_no F118.turn) (fun hHeld => ?_)
      clear hK
      have b123 := b114.turn_no F118.turn
      have b124 := b115.turn_no F118.turn
      have b125 := b113.turn_no F118.turn
      refine wpAnyH_ready (rs := [16]) (by kernel_rfl) (by simp) ?_
      refine AllReadyH.cons rfl (fun K hK => ?_) AllReadyH.nil
      go_simp
      refine (HN.out.2.2.2.1 X116).mono ?_
      rintro e X126 ⟨v127, rfl, F128⟩
      obtain ⟨a129, l130, c131, rfl⟩ := F128.form
      have b132 := F128.own.bs
      refine hK.out _ _ (hHeld.then_no F128.turn) (fun hHeld => ?_)
      clear hK
      have b133 := b123.turn_no F128.turn
      have b134 := b124.turn_no F128.turn
      have b135 := b125.turn_no F128.turn
      have b136 := b122.turn_no F128.turn
      refine wpAnyH_ready (rs := [19]) (by kernel_rfl) (by simp) ?_
      refine AllReadyH.cons rfl (fun K hK => ?_) AllReadyH.nil
      go_simp
      refine (HN.out.2.2.2.2.1 X126).mono ?_
      rintro e X137 ⟨v138, rfl, F139⟩
      obtain ⟨a140, l141, c142, rfl⟩ := F139.form
      have b143 := F139.own.bs
      refine hK.out _ _ (hHeld.then_no F139.turn) (fun hHeld => ?_)
      clear hK
      have b144 := b133.turn_no F139.turn
      have b145 := b134.turn_no F139.turn
      have b146 := b135.turn_no F139.turn
      have b147 := b136.turn_no F139.turn
      have b148 := b132.turn_no F139.turn
      refine wpAnyH_ready (rs := [23]) (by kernel_rfl) (by simp) ?_
      refine AllReadyH.cons rfl (fun K hK => ?_) AllReadyH.nil
      go_simp
      refine (HN.out.2.2.2.2.2 X137).mono ?_
      rintro e X149 ⟨v150, rfl, F151⟩
      obtain ⟨a152, l153, c154, rfl⟩ := F151.form
      have b155 := F151.own.bs
      refine hK.out _ _ (hHeld.then_no F151.turn) (fun hHeld => ?_)
      clear hK
      have b156 := b144.turn_no F151.turn
      have b157 := b145.turn_no F151.turn
      have b158 := b146.turn_no F151.turn
      have b159 := b147.turn_no F151.turn
      have b160 := b148.turn_no F151.turn
      have b161 := b143.turn_no F151.turn
      refine wpAnyH_ready (rs := [24]) (by kernel_rfl) (by simp) ?_
      refine AllReadyH.cons rfl (fun K hK => ?_) AllReadyH.nil
      go_simp
      have R163 := Row.new X149 #[.slice (some ⟨z105, 0, none⟩) 1 1, .slice a97 l98 c99, .slice a110 l111 c112, .slice a119 l120 c121, .slice a129 l130 c131, .slice a140 l141 c142, .slice a152 l153 c154] 70
      have T162 : Turn no X149 (World.alloc X149 (.cells #[.slice (some ⟨z105, 0, none⟩) 1 1, .slice a97 l98 c99, .slice a110 l111 c112, .slice a119 l120 c121, .slice a129 l130 c131, .slice a140 l141 c142, .slice a152 l153 c154] 70)) := (Turn.refl no X149).alloc _
      have J := join78 (World.alloc X149 (.cells #[.slice (some ⟨z105, 0, none⟩) 1 1, .slice a97 l98 c99, .slice a110 l111 c112, .slice a119 l120 c121, .slice a129 l130 c131, .slice a140 l141 c142, .slice a152 l153 c154] 70)) X149.heap.size 7 [(.slice (some ⟨z105, 0, none⟩) 1 1, [b0]), (.slice a97 l98 c99, varE nh), (.slice a110 l111 c112, varE nr), (.slice a119 l120 c121, X), (.slice a129 l130 c131, varE nt), (.slice a140 l141 c142, varE nf), (.slice a152 l153 c154, E)] (by
        intro j x hx
        match j, hx with
        | 0, hx => simp at hx; subst hx; exact ⟨R163.cell 0 _ rfl, b157.turn_no T162⟩
        | 1, hx => simp at hx; subst hx; exact ⟨R163.cell 1 _ rfl, b156.turn_no T162⟩
        | 2, hx => simp at hx; subst hx; exact ⟨R163.cell 2 _ rfl, b158.turn_no T162⟩
        | 3, hx => simp at hx; subst hx; exact ⟨R163.cell 3 _ rfl, b159.turn_no T162⟩
        | 4, hx => simp at hx; subst hx; exact ⟨R163.cell 4 _ rfl, b160.turn_no T162⟩
        | 5, hx => simp at hx; subst hx; exact ⟨R163.cell 5 _ rfl, b161.turn_no T162⟩
        | 6, hx => simp at hx; subst hx; exact ⟨R163.cell 6 _ rfl, b155.turn_no T162⟩
        | n + 7, hx => simp at hx) (by simp) (by simp [catL]; omega)
      refine hK.out _ _ (hHeld.then_no T162) (fun hHeld => ?_)
      clear hK
      refine wpAnyH_ready (rs := [25]) (by kernel_rfl) (by simp) ?_
      refine AllReadyH.cons rfl (fun K hK => ?_) AllReadyH.nil
      go_simp
      refine J.mono ?_
      rintro e X169 ⟨v164, rfl, F165⟩
      obtain ⟨a166, l167, c168, rfl⟩ := F165.form
      have hT := hHeld.then_no F165.turn
      refine hK.out _ _ hT (fun hHeld => ?_)
      clear hK J
      refine wpAnyH_ready (rs := [26]) (by kernel_rfl) (by simp) ?_
      refine AllReadyH.cons rfl (fun K hK => ?_) AllReadyH.nil
      go_simp
      refine hK.out _ _ hHeld (fun hHeld => ?_)
      clear hK
      refine wpAnyH_done (by kernel_rfl) ?_ _
      go_simp
      go_wp2_with fail
      go_ret
      exact ⟨_, rfl, by simpa [catL, voB'] using F165.own, fun g hg => fin_new t0 (by assumption) ⟨F165.own, fun g hg => Nat.le_trans T162.size (F165.new g hg), T162.then_no F165.turn⟩ g hg, t0.then_no hHeld⟩
    · skip
      go_simp
      refine (HN.out.2.1 X94).mono ?_
      rintro e X170 ⟨v171, rfl, F172⟩
      obtain ⟨a173, l174, c175, rfl⟩ := F172.form
      have b176 := F172.own.bs
      refine hK.out _ _ (hHeld.then_no F172.turn) (fun hHeld => ?_)
      clear hK
      have b177 := b100.turn_no F172.turn
      refine wpAnyH_ready (rs := [3, 13]) (by kernel_rfl) (by simp) ?_
      refine AllReadyH.cons rfl (fun K hK => ?_) (AllReadyH.cons rfl (fun K hK => ?_) AllReadyH.nil)
      · skip
        go_simp
        have h180 := fr_one X170 b0
        obtain ⟨X178, eX178⟩ : ∃ X, World.alloc X170 (.cells #[.int .u8 b0.toNat] 5) = X := ⟨_, rfl⟩
        have T179 : Turn no X170 X178 := by rw [← eX178]; exact (Turn.refl no X170).alloc _
        have b181 : Bs X178 (.slice (some ⟨X170.heap.size, 0, none⟩) 1 1) [b0] := by rw [← eX178]; exact h180.own.bs
        have HX178 := hHeld.then_no T179
        try rw [eX178]
        refine hK.out _ _ HX178 (fun hHeld => ?_)
        clear hK h180 eX178
        have b183 := b177.turn_no T179
        have b184 := b176.turn_no T179
        obtain ⟨z182, ez182⟩ : ∃ z, X170.heap.size = z := ⟨_, rfl⟩
        rw [ez182] at b181
        try rw [ez182]
        clear ez182
        refine wpAnyH_ready (rs := [13]) (by kernel_rfl) (by simp) ?_
        refine AllReadyH.cons rfl (fun K hK => ?_) AllReadyH.nil
        go_simp
        refine (HN.out.2.2.1 X178).mono ?_
        rintro e X185 ⟨v186, rfl, F187⟩
        obtain ⟨a188, l189, c190, rfl⟩ := F187.form
        have b191 := F187.own.bs
        refine hK.out _ _ (hHeld.then_no F187.turn) (fun hHeld => ?_)
        clear hK
        have b192 := b183.turn_no F187.turn
        have b193 := b184.turn_no F187.turn
        have b194 := b181.turn_no F187.turn
        refine wpAnyH_ready (rs := [16]) (by kernel_rfl) (by simp) ?_
        refine AllReadyH.cons rfl (fun K hK => ?_) AllReadyH.nil
        go_simp
        refine (HN.out.2.2.2.1 X185).mono ?_
        rintro e X195 ⟨v196, rfl, F197⟩
        obtain ⟨a198, l199, c200, rfl⟩ := F197.form
        have b201 := F197.own.bs
        refine hK.out _ _ (hHeld.then_no F197.turn) (fun hHeld => ?_)
        clear hK
        have b202 := b192.turn_no F197.turn
        have b203 := b193.turn_no F197.turn
        have b204 := b194.turn_no F197.turn
        have b205 := b191.turn_no F197.turn
        refine wpAnyH_ready (rs := [19]) (by kernel_rfl) (by simp) ?_
        refine AllReadyH.cons rfl (fun K hK => ?_) AllReadyH.nil
        go_simp
        refine (HN.out.2.2.2.2.1 X195).mono ?_
        rintro e X206 ⟨v207, rfl, F208⟩
        obtain ⟨a209, l210, c211, rfl⟩ := F208.form
        have b212 := F208.own.bs
        refine hK.out _ _ (hHeld.then_no F208.turn) (fun hHeld => ?_)
        clear hK
        have b213 := b202.turn_no F208.turn
        have b214 := b203.turn_no F208.turn
        have b215 := b204.turn_no F208.turn
        have b216 := b205.turn_no F208.turn
        have b217 := b201.turn_no F208.turn
        refine wpAnyH_ready (rs := [23]) (by kernel_rfl) (by simp) ?_
        refine AllReadyH.cons rfl (fun K hK => ?_) AllReadyH.nil
        go_simp
        refine (HN.out.2.2.2.2.2 X206).mono ?_
        rintro e X218 ⟨v219, rfl, F220⟩
        obtain ⟨a221, l222, c223, rfl⟩ := F220.form
        have b224 := F220.own.bs
        refine hK.out _ _ (hHeld.then_no F220.turn) (fun hHeld => ?_)
        clear hK
        have b225 := b213.turn_no F220.turn
        have b226 := b214.turn_no F220.turn
        have b227 := b215.turn_no F220.turn
        have b228 := b216.turn_no F220.turn
        have b229 := b217.turn_no F220.turn
        have b230 := b212.turn_no F220.turn
        refine wpAnyH_ready (rs := [24]) (by kernel_rfl) (by simp) ?_
        refine AllReadyH.cons rfl (fun K hK => ?_) AllReadyH.nil
        go_simp
        have R232 := Row.new X218 #[.slice (some ⟨z182, 0, none⟩) 1 1, .slice a97 l98 c99, .slice a173 l174 c175, .slice a188 l189 c190, .slice a198 l199 c200, .slice a209 l210 c211, .slice a221 l222 c223] 70
        have T231 : Turn no X218 (World.alloc X218 (.cells #[.slice (some ⟨z182, 0, none⟩) 1 1, .slice a97 l98 c99, .slice a173 l174 c175, .slice a188 l189 c190, .slice a198 l199 c200, .slice a209 l210 c211, .slice a221 l222 c223] 70)) := (Turn.refl no X218).alloc _
        have J := join78 (World.alloc X218 (.cells #[.slice (some ⟨z182, 0, none⟩) 1 1, .slice a97 l98 c99, .slice a173 l174 c175, .slice a188 l189 c190, .slice a198 l199 c200, .slice a209 l210 c211, .slice a221 l222 c223] 70)) X218.heap.size 7 [(.slice (some ⟨z182, 0, none⟩) 1 1, [b0]), (.slice a97 l98 c99, varE nh), (.slice a173 l174 c175, varE nr), (.slice a188 l189 c190, X), (.slice a198 l199 c200, varE nt), (.slice a209 l210 c211, varE nf), (.slice a221 l222 c223, E)] (by
          intro j x hx
          match j, hx with
          | 0, hx => simp at hx; subst hx; exact ⟨R232.cell 0 _ rfl, b227.turn_no T231⟩
          | 1, hx => simp at hx; subst hx; exact ⟨R232.cell 1 _ rfl, b225.turn_no T231⟩
          | 2, hx => simp at hx; subst hx; exact ⟨R232.cell 2 _ rfl, b226.turn_no T231⟩
          | 3, hx => simp at hx; subst hx; exact ⟨R232.cell 3 _ rfl, b228.turn_no T231⟩
          | 4, hx => simp at hx; subst hx; exact ⟨R232.cell 4 _ rfl, b229.turn_no T231⟩
          | 5, hx => simp at hx; subst hx; exact ⟨R232.cell 5 _ rfl, b230.turn_no T231⟩
          | 6, hx => simp at hx; subst hx; exact ⟨R232.cell 6 _ rfl, b224.turn_no T231⟩
          | n + 7, hx => simp at hx) (by simp) (by simp [catL]; omega)
        refine hK.out _ _ (hHeld.then_no T231) (fun hHeld => ?_)
        clear hK
        refine wpAnyH_ready (rs := [25]) (by kernel_rfl) (by simp) ?_
        refine AllReadyH.cons rfl (fun K hK => ?_) AllReadyH.nil
        go_simp
        refine J.mono ?_
        rintro e X238 ⟨v233, rfl, F234⟩
        obtain ⟨a235, l236, c237, rfl⟩ := F234.form
        have hT := hHeld.then_no F234.turn
        refine hK.out _ _ hT (fun hHeld => ?_)
        clear hK J
        refine wpAnyH_ready (rs := [26]) (by kernel_rfl) (by simp) ?_
        refine AllReadyH.cons rfl (fun K hK => ?_) AllReadyH.nil
        go_simp
        refine hK.out _ _ hHeld (fun hHeld => ?_)
        clear hK
        refine wpAnyH_done (by kernel_rfl) ?_ _
        go_simp
        go_wp2_with fail
        go_ret
        exact ⟨_, rfl, by simpa [catL, voB'] using F234.own, fun g hg => fin_new t0 (by assumption) ⟨F234.own, fun g hg => Nat.le_trans T231.size (F234.new g hg), T231.then_no F234.turn⟩ g hg, t0.then_no hHeld⟩
      · skip
        go_simp
        refine (HN.out.2.2.1 X170).mono ?_
        rintro e X239 ⟨v240, rfl, F241⟩
        obtain ⟨a242, l243, c244, rfl⟩ := F241.form
        have b245 := F241.own.bs
        refine hK.out _ _ (hHeld.then_no F241.turn) (fun hHeld => ?_)
        clear hK
        have b246 := b177.turn_no F241.turn
        have b247 := b176.turn_no F241.turn
        refine wpAnyH_ready (rs := [3, 16]) (by kernel_rfl) (by simp) ?_
        refine AllReadyH.cons rfl (fun K hK => ?_) (AllReadyH.cons rfl (fun K hK => ?_) AllReadyH.nil)
        · skip
          go_simp
          have h250 := fr_one X239 b0
          obtain ⟨X248, eX248⟩ : ∃ X, World.alloc X239 (.cells #[.int .u8 b0.toNat] 5) = X := ⟨_, rfl⟩
          have T249 : Turn no X239 X248 := by rw [← eX248]; exact (Turn.refl no X239).alloc _
          have b251 : Bs X248 (.slice (some ⟨X239.heap.size, 0, none⟩) 1 1) [b0] := by rw [← eX248]; exact h250.own.bs
          have HX248 := hHeld.then_no T249
          try rw [eX248]
          refine hK.out _ _ HX248 (fun hHeld => ?_)
          clear hK h250 eX248
          have b253 := b246.turn_no T249
          have b254 := b247.turn_no T249
          have b255 := b245.turn_no T249
          obtain ⟨z252, ez252⟩ : ∃ z, X239.heap.size = z := ⟨_, rfl⟩
          rw [ez252] at b251
          try rw [ez252]
          clear ez252
          refine wpAnyH_ready (rs := [16]) (by kernel_rfl) (by simp) ?_
          refine AllReadyH.cons rfl (fun K hK => ?_) AllReadyH.nil
          go_simp
          refine (HN.out.2.2.2.1 X248).mono ?_
          rintro e X256 ⟨v257, rfl, F258⟩
          obtain ⟨a259, l260, c261, rfl⟩ := F258.form
          have b262 := F258.own.bs
          refine hK.out _ _ (hHeld.then_no F258.turn) (fun hHeld => ?_)
          clear hK
          have b263 := b253.turn_no F258.turn
          have b264 := b254.turn_no F258.turn
          have b265 := b255.turn_no F258.turn
          have b266 := b251.turn_no F258.turn
          refine wpAnyH_ready (rs := [19]) (by kernel_rfl) (by simp) ?_
          refine AllReadyH.cons rfl (fun K hK => ?_) AllReadyH.nil
          go_simp
          refine (HN.out.2.2.2.2.1 X256).mono ?_
          rintro e X267 ⟨v268, rfl, F269⟩
          obtain ⟨a270, l271, c272, rfl⟩ := F269.form
          have b273 := F269.own.bs
          refine hK.out _ _ (hHeld.then_no F269.turn) (fun hHeld => ?_)
          clear hK
          have b274 := b263.turn_no F269.turn
          have b275 := b264.turn_no F269.turn
          have b276 := b265.turn_no F269.turn
          have b277 := b266.turn_no F269.turn
          have b278 := b262.turn_no F269.turn
          refine wpAnyH_ready (rs := [23]) (by kernel_rfl) (by simp) ?_
          refine AllReadyH.cons rfl (fun K hK => ?_) AllReadyH.nil
          go_simp
          refine (HN.out.2.2.2.2.2 X267).mono ?_
          rintro e X279 ⟨v280, rfl, F281⟩
          obtain ⟨a282, l283, c284, rfl⟩ := F281.form
          have b285 := F281.own.bs
          refine hK.out _ _ (hHeld.then_no F281.turn) (fun hHeld => ?_)
          clear hK
          have b286 := b274.turn_no F281.turn
          have b287 := b275.turn_no F281.turn
          have b288 := b276.turn_no F281.turn
          have b289 := b277.turn_no F281.turn
          have b290 := b278.turn_no F281.turn
          have b291 := b273.turn_no F281.turn
          refine wpAnyH_ready (rs := [24]) (by kernel_rfl) (by simp) ?_
          refine AllReadyH.cons rfl (fun K hK => ?_) AllReadyH.nil
          go_simp
          have R293 := Row.new X279 #[.slice (some ⟨z252, 0, none⟩) 1 1, .slice a97 l98 c99, .slice a173 l174 c175, .slice a242 l243 c244, .slice a259 l260 c261, .slice a270 l271 c272, .slice a282 l283 c284] 70
          have T292 : Turn no X279 (World.alloc X279 (.cells #[.slice (some ⟨z252, 0, none⟩) 1 1, .slice a97 l98 c99, .slice a173 l174 c175, .slice a242 l243 c244, .slice a259 l260 c261, .slice a270 l271 c272, .slice a282 l283 c284] 70)) := (Turn.refl no X279).alloc _
          have J := join78 (World.alloc X279 (.cells #[.slice (some ⟨z252, 0, none⟩) 1 1, .slice a97 l98 c99, .slice a173 l174 c175, .slice a242 l243 c244, .slice a259 l260 c261, .slice a270 l271 c272, .slice a282 l283 c284] 70)) X279.heap.size 7 [(.slice (some ⟨z252, 0, none⟩) 1 1, [b0]), (.slice a97 l98 c99, varE nh), (.slice a173 l174 c175, varE nr), (.slice a242 l243 c244, X), (.slice a259 l260 c261, varE nt), (.slice a270 l271 c272, varE nf), (.slice a282 l283 c284, E)] (by
            intro j x hx
            match j, hx with
            | 0, hx => simp at hx; subst hx; exact ⟨R293.cell 0 _ rfl, b289.turn_no T292⟩
            | 1, hx => simp at hx; subst hx; exact ⟨R293.cell 1 _ rfl, b286.turn_no T292⟩
            | 2, hx => simp at hx; subst hx; exact ⟨R293.cell 2 _ rfl, b287.turn_no T292⟩
            | 3, hx => simp at hx; subst hx; exact ⟨R293.cell 3 _ rfl, b288.turn_no T292⟩
            | 4, hx => simp at hx; subst hx; exact ⟨R293.cell 4 _ rfl, b290.turn_no T292⟩
            | 5, hx => simp at hx; subst hx; exact ⟨R293.cell 5 _ rfl, b291.turn_no T292⟩
            | 6, hx => simp at hx; subst hx; exact ⟨R293.cell 6 _ rfl, b285.turn_no T292⟩
            | n + 7, hx => simp at hx) (by simp) (by simp [catL]; omega)
          refine hK.out _ _ (hHeld.then_no T292) (fun hHeld => ?_)
          clear hK
          refine wpAnyH_ready (rs := [25]) (by kernel_rfl) (by simp) ?_
          refine AllReadyH.cons rfl (fun K hK => ?_) AllReadyH.nil
          go_simp
          refine J.mono ?_
          rintro e X299 ⟨v294, rfl, F295⟩
          obtain ⟨a296, l297, c298, rfl⟩ := F295.form
          have hT := hHeld.then_no F295.turn
          refine hK.out _ _ hT (fun hHeld => ?_)
          clear hK J
          refine wpAnyH_ready (rs := [26]) (by kernel_rfl) (by simp) ?_
          refine AllReadyH.cons rfl (fun K hK => ?_) AllReadyH.nil
          go_simp
          refine hK.out _ _ hHeld (fun hHeld => ?_)
          clear hK
          refine wpAnyH_done (by kernel_rfl) ?_ _
          go_simp
          go_wp2_with fail
          go_ret
          exact ⟨_, rfl, by simpa [catL, voB'] using F295.own, fun g hg => fin_new t0 (by assumption) ⟨F295.own, fun g hg => Nat.le_trans T292.size (F295.new g hg), T292.then_no F295.turn⟩ g hg, t0.then_no hHeld⟩
        · skip
          go_simp
          refine (HN.out.2.2.2.1 X239).mono ?_
          rintro e X300 ⟨v301, rfl, F302⟩
          obtain ⟨a303, l304, c305, rfl⟩ := F302.form
          have b306 := F302.own.bs
          refine hK.out _ _ (hHeld.then_no F302.turn) (fun hHeld => ?_)
          clear hK
          have b307 := b246.turn_no F302.turn
          have b308 := b247.turn_no F302.turn
          have b309 := b245.turn_no F302.turn
          refine wpAnyH_ready (rs := [3, 19]) (by kernel_rfl) (by simp) ?_
          refine AllReadyH.cons rfl (fun K hK => ?_) (AllReadyH.cons rfl (fun K hK => ?_) AllReadyH.nil)
          · skip
            go_simp
            have h312 := fr_one X300 b0
            obtain ⟨X310, eX310⟩ : ∃ X, World.alloc X300 (.cells #[.int .u8 b0.toNat] 5) = X := ⟨_, rfl⟩
            have T311 : Turn no X300 X310 := by rw [← eX310]; exact (Turn.refl no X300).alloc _
            have b313 : Bs X310 (.slice (some ⟨X300.heap.size, 0, none⟩) 1 1) [b0] := by rw [← eX310]; exact h312.own.bs
            have HX310 := hHeld.then_no T311
            try rw [eX310]
            refine hK.out _ _ HX310 (fun hHeld => ?_)
            clear hK h312 eX310
            have b315 := b307.turn_no T311
            have b316 := b308.turn_no T311
            have b317 := b309.turn_no T311
            have b318 := b306.turn_no T311
            obtain ⟨z314, ez314⟩ : ∃ z, X300.heap.size = z := ⟨_, rfl⟩
            rw [ez314] at b313
            try rw [ez314]
            clear ez314
            refine wpAnyH_ready (rs := [19]) (by kernel_rfl) (by simp) ?_
            refine AllReadyH.cons rfl (fun K hK => ?_) AllReadyH.nil
            go_simp
            refine (HN.out.2.2.2.2.1 X310).mono ?_
            rintro e X319 ⟨v320, rfl, F321⟩
            obtain ⟨a322, l323, c324, rfl⟩ := F321.form
            have b325 := F321.own.bs
            refine hK.out _ _ (hHeld.then_no F321.turn) (fun hHeld => ?_)
            clear hK
            have b326 := b315.turn_no F321.turn
            have b327 := b316.turn_no F321.turn
            have b328 := b317.turn_no F321.turn
            have b329 := b318.turn_no F321.turn
            have b330 := b313.turn_no F321.turn
            refine wpAnyH_ready (rs := [23]) (by kernel_rfl) (by simp) ?_
            refine AllReadyH.cons rfl (fun K hK => ?_) AllReadyH.nil
            go_simp
            refine (HN.out.2.2.2.2.2 X319).mono ?_
            rintro e X331 ⟨v332, rfl, F333⟩
            obtain ⟨a334, l335, c336, rfl⟩ := F333.form
            have b337 := F333.own.bs
            refine hK.out _ _ (hHeld.then_no F333.turn) (fun hHeld => ?_)
            clear hK
            have b338 := b326.turn_no F333.turn
            have b339 := b327.turn_no F333.turn
            have b340 := b328.turn_no F333.turn
            have b341 := b329.turn_no F333.turn
            have b342 := b330.turn_no F333.turn
            have b343 := b325.turn_no F333.turn
            refine wpAnyH_ready (rs := [24]) (by kernel_rfl) (by simp) ?_
            refine AllReadyH.cons rfl (fun K hK => ?_) AllReadyH.nil
            go_simp
            have R345 := Row.new X331 #[.slice (some ⟨z314, 0, none⟩) 1 1, .slice a97 l98 c99, .slice a173 l174 c175, .slice a242 l243 c244, .slice a303 l304 c305, .slice a322 l323 c324, .slice a334 l335 c336] 70
            have T344 : Turn no X331 (World.alloc X331 (.cells #[.slice (some ⟨z314, 0, none⟩) 1 1, .slice a97 l98 c99, .slice a173 l174 c175, .slice a242 l243 c244, .slice a303 l304 c305, .slice a322 l323 c324, .slice a334 l335 c336] 70)) := (Turn.refl no X331).alloc _
            have J := join78 (World.alloc X331 (.cells #[.slice (some ⟨z314, 0, none⟩) 1 1, .slice a97 l98 c99, .slice a173 l174 c175, .slice a242 l243 c244, .slice a303 l304 c305, .slice a322 l323 c324, .slice a334 l335 c336] 70)) X331.heap.size 7 [(.slice (some ⟨z314, 0, none⟩) 1 1, [b0]), (.slice a97 l98 c99, varE nh), (.slice a173 l174 c175, varE nr), (.slice a242 l243 c244, X), (.slice a303 l304 c305, varE nt), (.slice a322 l323 c324, varE nf), (.slice a334 l335 c336, E)] (by
              intro j x hx
              match j, hx with
              | 0, hx => simp at hx; subst hx; exact ⟨R345.cell 0 _ rfl, b342.turn_no T344⟩
              | 1, hx => simp at hx; subst hx; exact ⟨R345.cell 1 _ rfl, b338.turn_no T344⟩
              | 2, hx => simp at hx; subst hx; exact ⟨R345.cell 2 _ rfl, b339.turn_no T344⟩
              | 3, hx => simp at hx; subst hx; exact ⟨R345.cell 3 _ rfl, b340.turn_no T344⟩
              | 4, hx => simp at hx; subst hx; exact ⟨R345.cell 4 _ rfl, b341.turn_no T344⟩
              | 5, hx => simp at hx; subst hx; exact ⟨R345.cell 5 _ rfl, b343.turn_no T344⟩
              | 6, hx => simp at hx; subst hx; exact ⟨R345.cell 6 _ rfl, b337.turn_no T344⟩
              | n + 7, hx => simp at hx) (by simp) (by simp [catL]; omega)
            refine hK.out _ _ (hHeld.then_no T344) (fun hHeld => ?_)
            clear hK
            refine wpAnyH_ready (rs := [25]) (by kernel_rfl) (by simp) ?_
            refine AllReadyH.cons rfl (fun K hK => ?_) AllReadyH.nil
            go_simp
            refine J.mono ?_
            rintro e X351 ⟨v346, rfl, F347⟩
            obtain ⟨a348, l349, c350, rfl⟩ := F347.form
            have hT := hHeld.then_no F347.turn
            refine hK.out _ _ hT (fun hHeld => ?_)
            clear hK J
            refine wpAnyH_ready (rs := [26]) (by kernel_rfl) (by simp) ?_
            refine AllReadyH.cons rfl (fun K hK => ?_) AllReadyH.nil
            go_simp
            refine hK.out _ _ hHeld (fun hHeld => ?_)
            clear hK
            refine wpAnyH_done (by kernel_rfl) ?_ _
            go_simp
            go_wp2_with fail
            go_ret
            exact ⟨_, rfl, by simpa [catL, voB'] using F347.own, fun g hg => fin_new t0 (by assumption) ⟨F347.own, fun g hg => Nat.le_trans T344.size (F347.new g hg), T344.then_no F347.turn⟩ g hg, t0.then_no hHeld⟩
          · skip
            go_simp
            refine (HN.out.2.2.2.2.1 X300).mono ?_
            rintro e X352 ⟨v353, rfl, F354⟩
            obtain ⟨a355, l356, c357, rfl⟩ := F354.form
            have b358 := F354.own.bs
            refine hK.out _ _ (hHeld.then_no F354.turn) (fun hHeld => ?_)
            clear hK
            have b359 := b307.turn_no F354.turn
            have b360 := b308.turn_no F354.turn
            have b361 := b309.turn_no F354.turn
            have b362 := b306.turn_no F354.turn
            refine wpAnyH_ready (rs := [3, 23]) (by kernel_rfl) (by simp) ?_
            refine AllReadyH.cons rfl (fun K hK => ?_) (AllReadyH.cons rfl (fun K hK => ?_) AllReadyH.nil)
            · skip
              go_simp
              have h365 := fr_one X352 b0
              obtain ⟨X363, eX363⟩ : ∃ X, World.alloc X352 (.cells #[.int .u8 b0.toNat] 5) = X := ⟨_, rfl⟩
              have T364 : Turn no X352 X363 := by rw [← eX363]; exact (Turn.refl no X352).alloc _
              have b366 : Bs X363 (.slice (some ⟨X352.heap.size, 0, none⟩) 1 1) [b0] := by rw [← eX363]; exact h365.own.bs
              have HX363 := hHeld.then_no T364
              try rw [eX363]
              refine hK.out _ _ HX363 (fun hHeld => ?_)
              clear hK h365 eX363
              have b368 := b359.turn_no T364
              have b369 := b360.turn_no T364
              have b370 := b361.turn_no T364
              have b371 := b362.turn_no T364
              have b372 := b358.turn_no T364
              obtain ⟨z367, ez367⟩ : ∃ z, X352.heap.size = z := ⟨_, rfl⟩
              rw [ez367] at b366
              try rw [ez367]
              clear ez367
              refine wpAnyH_ready (rs := [23]) (by kernel_rfl) (by simp) ?_
              refine AllReadyH.cons rfl (fun K hK => ?_) AllReadyH.nil
              go_simp
              refine (HN.out.2.2.2.2.2 X363).mono ?_
              rintro e X373 ⟨v374, rfl, F375⟩
              obtain ⟨a376, l377, c378, rfl⟩ := F375.form
              have b379 := F375.own.bs
              refine hK.out _ _ (hHeld.then_no F375.turn) (fun hHeld => ?_)
              clear hK
              have b380 := b368.turn_no F375.turn
              have b381 := b369.turn_no F375.turn
              have b382 := b370.turn_no F375.turn
              have b383 := b371.turn_no F375.turn
              have b384 := b372.turn_no F375.turn
              have b385 := b366.turn_no F375.turn
              refine wpAnyH_ready (rs := [24]) (by kernel_rfl) (by simp) ?_
              refine AllReadyH.cons rfl (fun K hK => ?_) AllReadyH.nil
              go_simp
              have R387 := Row.new X373 #[.slice (some ⟨z367, 0, none⟩) 1 1, .slice a97 l98 c99, .slice a173 l174 c175, .slice a242 l243 c244, .slice a303 l304 c305, .slice a355 l356 c357, .slice a376 l377 c378] 70
              have T386 : Turn no X373 (World.alloc X373 (.cells #[.slice (some ⟨z367, 0, none⟩) 1 1, .slice a97 l98 c99, .slice a173 l174 c175, .slice a242 l243 c244, .slice a303 l304 c305, .slice a355 l356 c357, .slice a376 l377 c378] 70)) := (Turn.refl no X373).alloc _
              have J := join78 (World.alloc X373 (.cells #[.slice (some ⟨z367, 0, none⟩) 1 1, .slice a97 l98 c99, .slice a173 l174 c175, .slice a242 l243 c244, .slice a303 l304 c305, .slice a355 l356 c357, .slice a376 l377 c378] 70)) X373.heap.size 7 [(.slice (some ⟨z367, 0, none⟩) 1 1, [b0]), (.slice a97 l98 c99, varE nh), (.slice a173 l174 c175, varE nr), (.slice a242 l243 c244, X), (.slice a303 l304 c305, varE nt), (.slice a355 l356 c357, varE nf), (.slice a376 l377 c378, E)] (by
                intro j x hx
                match j, hx with
                | 0, hx => simp at hx; subst hx; exact ⟨R387.cell 0 _ rfl, b385.turn_no T386⟩
                | 1, hx => simp at hx; subst hx; exact ⟨R387.cell 1 _ rfl, b380.turn_no T386⟩
                | 2, hx => simp at hx; subst hx; exact ⟨R387.cell 2 _ rfl, b381.turn_no T386⟩
                | 3, hx => simp at hx; subst hx; exact ⟨R387.cell 3 _ rfl, b382.turn_no T386⟩
                | 4, hx => simp at hx; subst hx; exact ⟨R387.cell 4 _ rfl, b383.turn_no T386⟩
                | 5, hx => simp at hx; subst hx; exact ⟨R387.cell 5 _ rfl, b384.turn_no T386⟩
                | 6, hx => simp at hx; subst hx; exact ⟨R387.cell 6 _ rfl, b379.turn_no T386⟩
                | n + 7, hx => simp at hx) (by simp) (by simp [catL]; omega)
              refine hK.out _ _ (hHeld.then_no T386) (fun hHeld => ?_)
              clear hK
              refine wpAnyH_ready (rs := [25]) (by kernel_rfl) (by simp) ?_
              refine AllReadyH.cons rfl (fun K hK => ?_) AllReadyH.nil
              go_simp
              refine J.mono ?_
              rintro e X393 ⟨v388, rfl, F389⟩
              obtain ⟨a390, l391, c392, rfl⟩ := F389.form
              have hT := hHeld.then_no F389.turn
              refine hK.out _ _ hT (fun hHeld => ?_)
              clear hK J
              refine wpAnyH_ready (rs := [26]) (by kernel_rfl) (by simp) ?_
              refine AllReadyH.cons rfl (fun K hK => ?_) AllReadyH.nil
              go_simp
              refine hK.out _ _ hHeld (fun hHeld => ?_)
              clear hK
              refine wpAnyH_done (by kernel_rfl) ?_ _
              go_simp
              go_wp2_with fail
              go_ret
              exact ⟨_, rfl, by simpa [catL, voB'] using F389.own, fun g hg => fin_new t0 (by assumption) ⟨F389.own, fun g hg => Nat.le_trans T386.size (F389.new g hg), T386.then_no F389.turn⟩ g hg, t0.then_no hHeld⟩
            · skip
              go_simp
              refine (HN.out.2.2.2.2.2 X352).mono ?_
              rintro e X394 ⟨v395, rfl, F396⟩
              obtain ⟨a397, l398, c399, rfl⟩ := F396.form
              have b400 := F396.own.bs
              refine hK.out _ _ (hHeld.then_no F396.turn) (fun hHeld => ?_)
              clear hK
              have b401 := b359.turn_no F396.turn
              have b402 := b360.turn_no F396.turn
              have b403 := b361.turn_no F396.turn
              have b404 := b362.turn_no F396.turn
              have b405 := b358.turn_no F396.turn
              refine wpAnyH_ready (rs := [3]) (by kernel_rfl) (by simp) ?_
              refine AllReadyH.cons rfl (fun K hK => ?_) AllReadyH.nil
              go_simp
              have h408 := fr_one X394 b0
              obtain ⟨X406, eX406⟩ : ∃ X, World.alloc X394 (.cells #[.int .u8 b0.toNat] 5) = X := ⟨_, rfl⟩
              have T407 : Turn no X394 X406 := by rw [← eX406]; exact (Turn.refl no X394).alloc _
              have b409 : Bs X406 (.slice (some ⟨X394.heap.size, 0, none⟩) 1 1) [b0] := by rw [← eX406]; exact h408.own.bs
              have HX406 := hHeld.then_no T407
              try rw [eX406]
              refine hK.out _ _ HX406 (fun hHeld => ?_)
              clear hK h408 eX406
              have b411 := b401.turn_no T407
              have b412 := b402.turn_no T407
              have b413 := b403.turn_no T407
              have b414 := b404.turn_no T407
              have b415 := b405.turn_no T407
              have b416 := b400.turn_no T407
              obtain ⟨z410, ez410⟩ : ∃ z, X394.heap.size = z := ⟨_, rfl⟩
              rw [ez410] at b409
              try rw [ez410]
              clear ez410
              refine wpAnyH_ready (rs := [24]) (by kernel_rfl) (by simp) ?_
              refine AllReadyH.cons rfl (fun K hK => ?_) AllReadyH.nil
              go_simp
              have R418 := Row.new X406 #[.slice (some ⟨z410, 0, none⟩) 1 1, .slice a97 l98 c99, .slice a173 l174 c175, .slice a242 l243 c244, .slice a303 l304 c305, .slice a355 l356 c357, .slice a397 l398 c399] 70
              have T417 : Turn no X406 (World.alloc X406 (.cells #[.slice (some ⟨z410, 0, none⟩) 1 1, .slice a97 l98 c99, .slice a173 l174 c175, .slice a242 l243 c244, .slice a303 l304 c305, .slice a355 l356 c357, .slice a397 l398 c399] 70)) := (Turn.refl no X406).alloc _
              have J := join78 (World.alloc X406 (.cells #[.slice (some ⟨z410, 0, none⟩) 1 1, .slice a97 l98 c99, .slice a173 l174 c175, .slice a242 l243 c244, .slice a303 l304 c305, .slice a355 l356 c357, .slice a397 l398 c399] 70)) X406.heap.size 7 [(.slice (some ⟨z410, 0, none⟩) 1 1, [b0]), (.slice a97 l98 c99, varE nh), (.slice a173 l174 c175, varE nr), (.slice a242 l243 c244, X), (.slice a303 l304 c305, varE nt), (.slice a355 l356 c357, varE nf), (.slice a397 l398 c399, E)] (by
                intro j x hx
                match j, hx with
                | 0, hx => simp at hx; subst hx; exact ⟨R418.cell 0 _ rfl, b409.turn_no T417⟩
                | 1, hx => simp at hx; subst hx; exact ⟨R418.cell 1 _ rfl, b411.turn_no T417⟩
                | 2, hx => simp at hx; subst hx; exact ⟨R418.cell 2 _ rfl, b412.turn_no T417⟩
                | 3, hx => simp at hx; subst hx; exact ⟨R418.cell 3 _ rfl, b413.turn_no T417⟩
                | 4, hx => simp at hx; subst hx; exact ⟨R418.cell 4 _ rfl, b414.turn_no T417⟩
                | 5, hx => simp at hx; subst hx; exact ⟨R418.cell 5 _ rfl, b415.turn_no T417⟩
                | 6, hx => simp at hx; subst hx; exact ⟨R418.cell 6 _ rfl, b416.turn_no T417⟩
                | n + 7, hx => simp at hx) (by simp) (by simp [catL]; omega)
              refine hK.out _ _ (hHeld.then_no T417) (fun hHeld => ?_)
              clear hK
              refine wpAnyH_ready (rs := [25]) (by kernel_rfl) (by simp) ?_
              refine AllReadyH.cons rfl (fun K hK => ?_) AllReadyH.nil
              go_simp
              refine J.mono ?_
              rintro e X424 ⟨v419, rfl, F420⟩
              obtain ⟨a421, l422, c423, rfl⟩ := F420.form
              have hT := hHeld.then_no F420.turn
              refine hK.out _ _ hT (fun hHeld => ?_)
              clear hK J
              refine wpAnyH_ready (rs := [26]) (by kernel_rfl) (by simp) ?_
              refine AllReadyH.cons rfl (fun K hK => ?_) AllReadyH.nil
              go_simp
              refine hK.out _ _ hHeld (fun hHeld => ?_)
              clear hK
              refine wpAnyH_done (by kernel_rfl) ?_ _
              go_simp
              go_wp2_with fail
              go_ret
              exact ⟨_, rfl, by simpa [catL, voB'] using F420.own, fun g hg => fin_new t0 (by assumption) ⟨F420.own, fun g hg => Nat.le_trans T417.size (F420.new g hg), T417.then_no F420.turn⟩ g hg, t0.then_no hHeld⟩
end Go.Proofs.YtgimecdmleofeaaDoor

/- evidence of the document. -/
namespace Go.Proofs.YtgimecdmleofeaaDoor
open Go.RowKit
set_option linter.unusedVariables false

set_option maxRecDepth 100000 in
set_option maxHeartbeats 8000000 in
theorem evidence46 (w : World) (x : Ev) (ho : x.fits) (hy : x.lays) : Calls Tryd.prog 46 #[.agg x.cs.toArray] w fun e w' => ∃ v, e = .returned v ∧ Fr w w' v (evB x) := by
  obtain ⟨ra, rb⟩ := ev_range ho (Row.rangeZ (Row.new w x.cs.toArray 80))
  rw [Nat.zero_add] at rb
  have za := size78 ho.1.1
  have zb := size78 ho.2.1
  have lA := voS_le ho.1.1
  have lB := voS_le ho.2.1
  have HN := shutX (And.intro (fun W => vote89 W x.a ho.1 hy.1.1 hy.1.2.1 hy.1.2.2.1 hy.1.2.2.2) (fun W => vote89 W x.b ho.2 hy.2.1 hy.2.2.1 hy.2.2.2.1 hy.2.2.2.2))
  unfold evB
  generalize voS x.a = B1 at *
  generalize voS x.b = B2 at *
  generalize x.cs.toArray = C at *
  generalize x.a.cs = D1 at *
  generalize x.b.cs = D2 at *
  have t0 : Turn no w (w.alloc (.cells C 80)) := (Turn.refl no w).alloc _
  obtain ⟨w1, hw1⟩ : ∃ W, w.alloc (.cells C 80) = W := ⟨_, rfl⟩
  rw [hw1] at t0 ra rb
  have Hc := shutX (fun W (t : Turn no w1 W) => And.intro (fun j u hu => t.keep (ra j u hu) (fun q => q) : W.rangeAt w.heap.size 0 D1) (fun j u hu => t.keep (rb j u hu) (fun q => q) : W.rangeAt w.heap.size 53 D2))
  clear ra rb ho hy
  go_enter Tryd.func46, Tryd.ntmps46
  go_upto_region 1 with fail
  try rw [hw1]
  obtain ⟨b, hbb⟩ : ∃ b, w.heap.size = b := ⟨_, rfl⟩
  rw [hbb] at Hc
  try rw [hbb]
  have Hbb := shutX hbb
  clear hbb hw1
  refine wp_region_held_drew (S := fun W => Turn no w1 W) (by kernel_rfl) (Turn.refl no w1).drew (fun hHeld => ?_)
  refine' wpAnyH_take (i := 0) (v := .pointer (some ⟨b, 0, none⟩)) rfl (by kernel_rfl) (by kernel_rfl) (by kernel_rfl) (fun _ _ _ h => h) (Or.inl ⟨by kernel_rfl, fun W hW => ?yq1⟩) hHeld ?rq1
  · go_simp
  refine' wpAnyH_take (i := 1) (v := .agg (D1).toArray) rfl (by kernel_rfl) (by kernel_rfl) (by kernel_rfl) (fun _ _ _ h => h) (yieldsIf_load_mid (by kernel_rfl) 78 (.tmp 3) rfl b 0 (by kernel_rfl) (D1) _ (fun W h => (Hc.out W h).1) Tryd.underlying78 rfl za) hHeld ?sq2
  refine' wpAnyH_take (i := 3) (v := .pointer (some ⟨b, 53, none⟩)) rfl (by kernel_rfl) (by kernel_rfl) (by kernel_rfl) (fun _ _ _ h => h) (Or.inl ⟨by kernel_rfl, fun W hW => ?yq3⟩) hHeld ?rq3
  · go_simp
  refine' wpAnyH_take (i := 4) (v := .agg (D2).toArray) rfl (by kernel_rfl) (by kernel_rfl) (by kernel_rfl) (fun _ _ _ h => h) (yieldsIf_load_mid (by kernel_rfl) 78 (.tmp 6) rfl b 53 (by kernel_rfl) (D2) _ (fun W h => (Hc.out W h).2) Tryd.underlying78 rfl zb) hHeld ?sq4
  obtain ⟨X0, hX0⟩ : ∃ X, w1.drew = X := ⟨_, rfl⟩
  rw [hX0] at hHeld ⊢
  clear hX0
  refine wpAnyH_ready (rs := [2]) (by kernel_rfl) (by simp) ?_
  refine AllReadyH.cons rfl (fun K hK => ?_) AllReadyH.nil
  go_simp
  refine (HN.out.1 X0).mono ?_
  rintro e X5 ⟨v6, rfl, F7⟩
  obtain ⟨a8, l9, c10, rfl⟩ := F7.form
  have b11 := F7.own.bs
  refine hK.out _ _ (hHeld.then_no F7.turn) (fun hHeld => ?_)
  clear hK
  refine wpAnyH_ready (rs := [5]) (by kernel_rfl) (by simp) ?_
  refine AllReadyH.cons rfl (fun K hK => ?_) AllReadyH.nil
  go_simp
  refine (HN.out.2 X5).mono ?_
  rintro e X12 ⟨v13, rfl, F14⟩
  obtain ⟨a15, l16, c17, rfl⟩ := F14.form
  have b18 := F14.own.bs
  refine hK.out _ _ (hHeld.then_no F14.turn) (fun hHeld => ?_)
  clear hK
  have b19 := b11.turn_no F14.turn
  refine wpAnyH_ready (rs := [6]) (by kernel_rfl) (by simp) ?_
  refine AllReadyH.cons rfl (fun K hK => ?_) AllReadyH.nil
  go_simp
  have R21 := Row.new X12 #[.slice a8 l9 c10, .slice a15 l16 c17] 70
  have T20 : Turn no X12 (World.alloc X12 (.cells #[.slice a8 l9 c10, .slice a15 l16 c17] 70)) := (Turn.refl no X12).alloc _
  have J := join78 (World.alloc X12 (.cells #[.slice a8 l9 c10, .slice a15 l16 c17] 70)) X12.heap.size 2 [(.slice a8 l9 c10, B1), (.slice a15 l16 c17, B2)] (by
    intro j x hx
    match j, hx with
    | 0, hx => simp at hx; subst hx; exact ⟨R21.cell 0 _ rfl, b19.turn_no T20⟩
    | 1, hx => simp at hx; subst hx; exact ⟨R21.cell 1 _ rfl, b18.turn_no T20⟩
    | n + 2, hx => simp at hx) (by simp) (by simp [catL]; omega)
  refine hK.out _ _ (hHeld.then_no T20) (fun hHeld => ?_)
  clear hK
  refine wpAnyH_ready (rs := [7]) (by kernel_rfl) (by simp) ?_
  refine AllReadyH.cons rfl (fun K hK => ?_) AllReadyH.nil
  go_simp
  refine J.mono ?_
  rintro e X27 ⟨v22, rfl, F23⟩
  obtain ⟨a24, l25, c26, rfl⟩ := F23.form
  have hT := hHeld.then_no F23.turn
  refine hK.out _ _ hT (fun hHeld => ?_)
  clear hK J
  refine wpAnyH_ready (rs := [8]) (by kernel_rfl) (by simp) ?_
  refine AllReadyH.cons rfl (fun K hK => ?_) AllReadyH.nil
  go_simp
  refine hK.out _ _ hHeld (fun hHeld => ?_)
  clear hK
  refine wpAnyH_done (by kernel_rfl) ?_ _
  go_simp
  go_wp2_with fail
  go_ret
  exact ⟨_, rfl, by simpa [catL] using F23.own, fun g hg => fin_new t0 (by assumption) ⟨F23.own, fun g hg => Nat.le_trans T20.size (F23.new g hg), T20.then_no F23.turn⟩ g hg, t0.then_no hHeld⟩
end Go.Proofs.YtgimecdmleofeaaDoor
