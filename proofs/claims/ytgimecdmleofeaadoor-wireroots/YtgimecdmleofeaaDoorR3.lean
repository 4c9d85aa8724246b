/- A header laid down. -/
import Derived.Test.YtgimecdmleofeaaDoorR1
import Derived.Test.YtgimecdmleofeaaDoorR2
import Derived.Great.BuildSlice
namespace Go.Proofs.YtgimecdmleofeaaDoor
open Go.RowKit
set_option linter.unusedVariables false

/-- What a header is laid down as. -/
def hdB (x : Hd) : List UInt8 := (varE x.ch.size ++ x.ch.data.toList) ++ (varE x.h ++ (varE x.t ++ (x.ids ++ varE x.pr)))
theorem Hd.ids_len {x : Hd} (h : x.ok) : x.ids.length = 224 := by
  obtain ⟨_, _, _, _, h0, h1, h2, h3, h4, h5, h6⟩ := h
  simp [Hd.ids, h0, h1, h2, h3, h4, h5, h6]
section
variable {P : Program} {ops : Array Oper} {rest : List Oper} {o : Oper} {a : Act} {w : World} {Q : Exit → Act → World → Prop}
/-- A slice built of values of one size. -/
theorem wpList_bsliceW (hg : o.guard = none) (t e : TypeId) (len size : Nat) (parts : Array (Nat × Operand)) (ho : o.op = .buildSlice t len parts) (vs : List Value)
    (he : (parts.map fun (i, x) => (i, a.eval x)).toList = (vs.zipIdx 0).map fun x => (x.2, x.1)) (hl : vs.length = len) (h1 : ∀ v ∈ vs, v.cells.size = size) (hs : 0 < size) (hlen : 0 < len) (hsm : len * size ≤ 2 ^ 24)
    (hu : P.underlying t = some (.slice e)) (hi : (P.info? e).map (·.size) = some size) (hz : ((P.info? e).bind (·.zero)).isSome = true)
    (h : wpList P ops Q rest (a.put o.dst (.slice (some ⟨w.heap.size, 0, none⟩) len len)) (w.alloc (.cells (vs.flatMap fun v => v.cells.toList).toArray e))) : wpList P ops Q (o :: rest) a w := by
  cases hie : P.info? e with
  | none => simp [hie] at hi
  | some ie =>
    simp only [hie, Option.map_some, Option.some.injEq, Option.bind_some] at hi hz
    obtain ⟨z, hzz⟩ := Option.isSome_iff_exists.1 hz
    have hp : 0 < len * size := Nat.mul_pos hlen hs
    refine wpList_buildSlice hg t e len parts ho _ ie z hu hie hzz (by rw [hi]; omega) (by rw [hi]; omega) ?_ h
    rw [he, hi]
    exact Great.fill_whole hs vs _ h1 (by simp [hl])
theorem wpList_bslice7 (hg : o.guard = none) (t e : TypeId) (size : Nat) (x0 x1 x2 x3 x4 x5 x6 : Operand) (ho : o.op = .buildSlice t 7 #[(0, x0), (1, x1), (2, x2), (3, x3), (4, x4), (5, x5), (6, x6)]) (v0 v1 v2 v3 v4 v5 v6 : Value)
    (e0 : a.eval x0 = v0) (e1 : a.eval x1 = v1) (e2 : a.eval x2 = v2) (e3 : a.eval x3 = v3) (e4 : a.eval x4 = v4) (e5 : a.eval x5 = v5) (e6 : a.eval x6 = v6)
    (h1 : ∀ v ∈ [v0, v1, v2, v3, v4, v5, v6], v.cells.size = size) (hs : 0 < size) (hsm : 7 * size ≤ 2 ^ 24)
    (hu : P.underlying t = some (.slice e)) (hi : (P.info? e).map (·.size) = some size) (hz : ((P.info? e).bind (·.zero)).isSome = true)
    (h : wpList P ops Q rest (a.put o.dst (.slice (some ⟨w.heap.size, 0, none⟩) 7 7)) (w.alloc (.cells ([v0, v1, v2, v3, v4, v5, v6].flatMap fun v => v.cells.toList).toArray e))) : wpList P ops Q (o :: rest) a w :=
  wpList_bsliceW hg t e 7 size _ ho [v0, v1, v2, v3, v4, v5, v6] (by simp [e0, e1, e2, e3, e4, e5, e6]) rfl h1 hs (by omega) hsm hu hi hz h
end
theorem ids_flat (x : Hd) : ([Value.agg (x.a0.map bv).toArray, Value.agg (x.a1.map bv).toArray, Value.agg (x.a2.map bv).toArray, Value.agg (x.a3.map bv).toArray, Value.agg (x.a4.map bv).toArray, Value.agg (x.a5.map bv).toArray, Value.agg (x.a6.map bv).toArray]).flatMap (fun v => v.cells.toList) = x.ids.map bv := by
  simp [Value.cells, Hd.ids]
theorem ids_at {x : Hd} (h : x.ok) {w : World} {g : Nat} (r : w.rangeAt g 0 (x.ids.map bv)) (k : Nat) (hk : k < 7) : w.rangeAt g (k * 32) (((x.ids.drop (k * 32)).take 32).map bv) := fun j u hu => by
  rw [List.getElem?_map, List.getElem?_take] at hu
  by_cases hj : j < 32
  · rw [if_pos hj, List.getElem?_drop] at hu
    have := r (k * 32 + j) u (by rw [List.getElem?_map]; exact hu)
    simpa using this
  · rw [if_neg hj] at hu; cases hu
theorem ids_take {x : Hd} (h : x.ok) (k : Nat) (hk : k < 7) : x.ids.take ((k + 1) * 32) = x.ids.take (k * 32) ++ (x.ids.drop (k * 32)).take 32 := by
  rw [show (k + 1) * 32 = k * 32 + 32 by omega, List.take_add]
theorem z29 : (Tryd.prog.info? 29).map (·.size) = some 32 := size35
theorem Laid.then_no {w W W' : World} {p : Nat} {v : Value} {bs : List UInt8} {e : Int} (L : Laid w p v bs e W) (t : Turn no W W') : Laid w p v bs e W' := by
  obtain ⟨v1, k1, k2, k3⟩ := L
  exact ⟨v1, k1.turn_no t, k2.then_no t, k3⟩
/-- A row of another type is not the writer's. -/
theorem Wr.apart {w : World} {p : Nat} {v : Value} {bs : List UInt8} {e : Int} {g : Nat} {cs : Array Value} (h : Wr w p v bs e) (r : Row w g cs 29) : ¬ wfoot p v g := by
  rintro (q | q)
  · subst q
    have := h.blk.symm.trans r
    simp at this
  · rcases h.own.shape with ⟨rfl, _⟩ | ⟨g', cap, cur, rfl, hg, _⟩
    · cases q
    · cases q
      have := hg.symm.trans r
      simp at this
set_option maxRecDepth 100000 in
set_option maxHeartbeats 8000000 in
theorem layHeader24 (W : World) (p : Nat) (v : Value) (bs : List UInt8) (h : Wr W p v bs 0) (x : Hd) (ho : x.ok) (hc : x.ch.size ≤ 16) (hle : bs.length ≤ 100) :
    Calls Tryd.prog 24 #[.pointer (some ⟨p, 0, none⟩), .agg x.cs.toArray] W fun e w' => e = .returned (.tuple #[]) ∧ Laid W p v (bs ++ hdB x) 0 w' := by
  have A0 := Row.hd ho (Row.new W x.cs.toArray 31)
  have t0 : Turn no W (W.alloc (.cells x.cs.toArray 31)) := (Turn.refl no W).alloc _
  have L0 := Laid.refl (h.turn_no t0)
  have hb : ¬ wfoot p v W.heap.size := by
    rintro (q | q)
    · have := h.lt; omega
    · have := h.own.lt q; omega
  have l1 := varE_le x.ch.size
  have l2 := varE_le x.h
  have l3 := varE_le x.t
  have hids := x.ids_len ho
  have hfl := ids_flat x
  have hcl : x.ch.data.toList.length = x.ch.size := by simp
  obtain ⟨b1, b2, b3, b4, h0, h1, h2, h3, h4, h5, h6⟩ := id ho
  have c0 := A0.c0
  unfold hdB
  generalize hC : x.cs.toArray = C at *
  clear hC
  have HC := shutX (fun W1 B (L : Laid (W.alloc (.cells C 31)) p v B 0 W1) => A0.turn L.turn hb)
  have S1 := step58 L0 x.ch (by omega)
  have S2 := fun W1 L => step62 (w0 := W.alloc (.cells C 31)) (W := W1) (p := p) (v := v) (bs := bs ++ (varE x.ch.size ++ x.ch.data.toList)) L x.h b1 (by simp; omega)
  have S3 := fun W1 L => step62 (w0 := W.alloc (.cells C 31)) (W := W1) (p := p) (v := v) (bs := bs ++ (varE x.ch.size ++ x.ch.data.toList) ++ varE x.h) L x.t b2 (by simp; omega)
  have S5 := fun W1 L => step62 (w0 := W.alloc (.cells C 31)) (W := W1) (p := p) (v := v) (bs := bs ++ (varE x.ch.size ++ x.ch.data.toList) ++ varE x.h ++ varE x.t ++ x.ids) L x.pr b3 (by simp; omega)
  have HS := shutX (And.intro S2 (And.intro S3 S5))
  have HX := shutX (And.intro ho (And.intro hids (And.intro hcl (And.intro hle (And.intro l1 (And.intro l2 (And.intro l3 hc)))))))
  have HFL := shutX hfl
  have i0 : (Tryd.prog.info? 29).map (·.size) = some (x.a0.map bv).length := by rw [List.length_map, h0]; exact size35
  have i1 : (Tryd.prog.info? 29).map (·.size) = some (x.a1.map bv).length := by rw [List.length_map, h1]; exact size35
  have i2 : (Tryd.prog.info? 29).map (·.size) = some (x.a2.map bv).length := by rw [List.length_map, h2]; exact size35
  have i3 : (Tryd.prog.info? 29).map (·.size) = some (x.a3.map bv).length := by rw [List.length_map, h3]; exact size35
  have i4 : (Tryd.prog.info? 29).map (·.size) = some (x.a4.map bv).length := by rw [List.length_map, h4]; exact size35
  have i5 : (Tryd.prog.info? 29).map (·.size) = some (x.a5.map bv).length := by rw [List.length_map, h5]; exact size35
  have i6 : (Tryd.prog.info? 29).map (·.size) = some (x.a6.map bv).length := by rw [List.length_map, h6]; exact size35
  have s7 : ∀ u ∈ [Value.agg (x.a0.map bv).toArray, Value.agg (x.a1.map bv).toArray, Value.agg (x.a2.map bv).toArray, Value.agg (x.a3.map bv).toArray, Value.agg (x.a4.map bv).toArray, Value.agg (x.a5.map bv).toArray, Value.agg (x.a6.map bv).toArray], u.cells.size = 32 := by
    intro u hu
    simp only [List.mem_cons, List.not_mem_nil, or_false] at hu
    rcases hu with rfl | rfl | rfl | rfl | rfl | rfl | rfl <;> simp [Value.cells, h0, h1, h2, h3, h4, h5, h6]
  have HS7 := shutX s7
  have nt := L0
  clear S2 S3 S5 L0 nt A0 l1 l2 l3 hids hfl hcl b1 b2 b3 b4 h0 h1 h2 h3 h4 h5 h6 hle ho hc s7
  generalize hm0 : x.a0.map bv = m0 at *
  generalize hm1 : x.a1.map bv = m1 at *
  generalize hm2 : x.a2.map bv = m2 at *
  generalize hm3 : x.a3.map bv = m3 at *
  generalize hm4 : x.a4.map bv = m4 at *
  generalize hm5 : x.a5.map bv = m5 at *
  generalize hm6 : x.a6.map bv = m6 at *
  generalize hch : x.ch = ch at *
  generalize hxh : x.h = xh at *
  generalize hxt : x.t = xt at *
  generalize hxp : x.pr = xp at *
  have HM := shutX (And.intro hm0 (And.intro hm1 (And.intro hm2 (And.intro hm3 (And.intro hm4 (And.intro hm5 (And.intro hm6 (And.intro hch (And.intro hxh (And.intro hxt hxp))))))))))
  clear hm0 hm1 hm2 hm3 hm4 hm5 hm6 hch hxh hxt hxp
  have HD := shutX (fun W1 B L => by
    have q := HC.out W1 B L
    obtain ⟨e0, e1, e2, e3, e4, e5, e6, e7, e8, e9, e10⟩ := HM.out
    exact (show (W1.cell? ⟨W.heap.size, 1, none⟩ = some (.int .u64 xh) ∧ W1.cell? ⟨W.heap.size, 2, none⟩ = some (.int .u64 xt)) ∧ (W1.rangeAt W.heap.size 3 m0 ∧ W1.rangeAt W.heap.size 35 m1 ∧ W1.rangeAt W.heap.size 67 m2 ∧ W1.rangeAt W.heap.size 99 m3 ∧ W1.rangeAt W.heap.size 131 m4 ∧ W1.rangeAt W.heap.size 163 m5 ∧ W1.rangeAt W.heap.size 195 m6) ∧ W1.cell? ⟨W.heap.size, 227, none⟩ = some (.int .u64 xp) by
      subst e0 e1 e2 e3 e4 e5 e6 e8 e9 e10
      exact ⟨⟨q.c1, q.c2⟩, ⟨q.r0, q.r1, q.r2, q.r3, q.r4, q.r5, q.r6⟩, q.c227⟩))
  clear HC
  go_enter Tryd.func24, Tryd.ntmps24
  go_upto_region 2 with (go_at_call 62; refine S1.mono ?_; rintro e w1 ⟨rfl, L1⟩; have d1 := (HD.out w1 _ L1).1.1; clear S1)
  go_upto_region 3 with (go_at_call 63; refine (HS.out.1 _ L1).mono ?_; rintro e w2 ⟨rfl, L2⟩; have d2 := (HD.out w2 _ L2).1.2)
  go_upto_region 4 with (go_at_call 63; refine (HS.out.2.1 _ L2).mono ?_; rintro e w3 ⟨rfl, L3⟩)
  obtain ⟨r0, r1, r2, r3, r4, r5, r6⟩ := (HD.out w3 _ L3).2.1
  clear d1 d2 L1 L2 c0
  go_upto_region 5 with (first
    | (guard_target =~ wpList _ _ _ ({ dst := some 19, op := Op.load 29 _, .. } :: _) _ _; refine wpList_load_mid rfl 29 (.tmp 18) rfl W.heap.size 3 rfl m0 _ r0 Tryd.underlying29 rfl i0 ?_)
    | (guard_target =~ wpList _ _ _ ({ dst := some 21, op := Op.load 29 _, .. } :: _) _ _; refine wpList_load_mid rfl 29 (.tmp 20) rfl W.heap.size 35 rfl m1 _ r1 Tryd.underlying29 rfl i1 ?_)
    | (guard_target =~ wpList _ _ _ ({ dst := some 23, op := Op.load 29 _, .. } :: _) _ _; refine wpList_load_mid rfl 29 (.tmp 22) rfl W.heap.size 67 rfl m2 _ r2 Tryd.underlying29 rfl i2 ?_)
    | (guard_target =~ wpList _ _ _ ({ dst := some 25, op := Op.load 29 _, .. } :: _) _ _; refine wpList_load_mid rfl 29 (.tmp 24) rfl W.heap.size 99 rfl m3 _ r3 Tryd.underlying29 rfl i3 ?_)
    | (guard_target =~ wpList _ _ _ ({ dst := some 27, op := Op.load 29 _, .. } :: _) _ _; refine wpList_load_mid rfl 29 (.tmp 26) rfl W.heap.size 131 rfl m4 _ r4 Tryd.underlying29 rfl i4 ?_)
    | (guard_target =~ wpList _ _ _ ({ dst := some 29, op := Op.load 29 _, .. } :: _) _ _; refine wpList_load_mid rfl 29 (.tmp 28) rfl W.heap.size 163 rfl m5 _ r5 Tryd.underlying29 rfl i5 ?_)
    | (guard_target =~ wpList _ _ _ ({ dst := some 31, op := Op.load 29 _, .. } :: _) _ _; refine wpList_load_mid rfl 29 (.tmp 30) rfl W.heap.size 195 rfl m6 _ r6 Tryd.underlying29 rfl i6 ?_)
    | (guard_target =~ wpList _ _ _ ({ dst := _, op := Op.buildSlice 103 _ _, .. } :: _) _ _; refine wpList_bslice7 rfl 103 29 32 (.tmp 19) (.tmp 21) (.tmp 23) (.tmp 25) (.tmp 27) (.tmp 29) (.tmp 31) rfl (.agg m0.toArray) (.agg m1.toArray) (.agg m2.toArray) (.agg m3.toArray) (.agg m4.toArray) (.agg m5.toArray) (.agg m6.toArray) rfl rfl rfl rfl rfl rfl rfl HS7.out (by omega) (by omega) Tryd.underlying103 size35 (by kernel_rfl) ?_; rw [HFL.out]))
  obtain ⟨w4, hw4⟩ : ∃ X, w3.alloc (.cells (x.ids.map bv).toArray 29) = X := ⟨_, rfl⟩
  have t4 : Turn no w3 w4 := by rw [← hw4]; exact (Turn.refl no w3).alloc _
  have R4 : Row w4 w3.heap.size (x.ids.map bv).toArray 29 := by rw [← hw4]; exact Row.new _ _ _
  have L4 := L3.then_no t4
  rw [hw4]
  generalize w3.heap.size = g3 at *
  have hzv := zero35v
  have hZ := hb32_size z32_len
  clear r0 r1 r2 r3 r4 r5 r6 hw4 t4 L3 HFL HS7 i0 i1 i2 i3 i4 i5 i6
  generalize hPRE : bs ++ (varE ch.size ++ ch.data.toList) ++ varE xh ++ varE xt = PRE at *
  have hpl : PRE.length ≤ 200 := by
    obtain ⟨_, _, e1, e2, e3, e4, e5, e6⟩ := HX.out
    rw [← hPRE]
    simp only [List.length_append]
    omega
  have HP := shutX hPRE
  clear hPRE
  go_loopw [34] (fun c wr => ∃ (k : Nat), k ≤ 7 ∧ c = .int .i64 k ∧ Shut (Laid (W.alloc (.cells C 31)) p v (PRE ++ x.ids.take (k * 32)) 0 wr ∧ Row wr g3 (x.ids.map bv).toArray 29)) (fun c _ => 7 - (intOf c).toNat)
  case atStart => exact ⟨0, by omega, rfl, ⟨by simpa using L4, R4⟩⟩
  case round =>
    obtain ⟨k, hk, rfl, HI⟩ := hrel
    by_cases hlt : k < 7
    · have hlt' : (k : Int) < 7 := by omega
      have hids := HX.out.2.1
      have hr := ids_at HX.out.1 (Row.rangeZ HI.out.2) k hlt
      have HE := shutX (ids_take HX.out.1 k hlt)
      have hcl : ((x.ids.drop (k * 32)).take 32).length = 32 := by simp; omega
      generalize (x.ids.drop (k * 32)).take 32 = ck at *
      have s1 : (Tryd.prog.info? 29).map (·.size) = some (ck.map bv).length := by rw [List.length_map, hcl]; exact size35
      have s2 : (Tryd.prog.info? 29).map (·.size) = some (hb32 ck).size := hb32_info hcl
      have s3 := hb32_one ck
      have s4 : (hb32 z32).size = (hb32 ck).size := by rw [hZ, hb32_size hcl]
      obtain ⟨⟨v1, k1, k2, k3⟩, RR⟩ := HI.out
      have htl : (x.ids.take (k * 32)).length ≤ 224 := by simp; omega
      have C5 : ∀ w5, Row w5 wr.heap.size (hb32 ck) 29 → Turn (fun z => z = wr.heap.size) (wr.alloc (.cells (hb32 z32) 29)) w5 → Calls Tryd.prog 56 #[.pointer (some ⟨p, 0, none⟩), .slice (some ⟨wr.heap.size, 0, none⟩) 32 32] w5 fun e w' => e = .returned (.tuple #[]) ∧ (Laid (W.alloc (.cells C 31)) p v (PRE ++ x.ids.take (k * 32) ++ ck) 0 w' ∧ Row w' g3 (x.ids.map bv).toArray 29) := fun w5 r5 t5 => by
        have tA : Turn (fun z => z = wr.heap.size) wr w5 := ((Turn.refl _ wr).alloc _).trans t5 (fun _ _ q => q)
        have K5 : Wr w5 p v1 (PRE ++ x.ids.take (k * 32)) 0 := k1.turn tA (fun z hz => by
          rintro rfl
          rcases hz with q | q
          · have := k1.lt; omega
          · have := k1.own.lt q; omega)
        have T5 : Turn (wfoot p v) (W.alloc (.cells C 31)) w5 := k2.trans tA (fun i hi q => by have := k2.size; omega)
        have R5 : Row w5 g3 (x.ids.map bv).toArray 29 := RR.turn tA (fun q => by have := RR.lt; omega)
        have bb : Bs w5 (.slice (some ⟨wr.heap.size, 0, none⟩) 32 32) ck := bs_range (Row.rangeZ r5) 32 hcl (by omega)
        refine (wraw_made w5 p v1 _ K5 _ ck bb (by simp only [List.length_append]; omega)).mono (fun e w' ⟨q1, q2⟩ => ⟨q1, Laid.trans K5 T5 k3 q2, R5.turn q2.turn (K5.apart R5)⟩)
      have HC5 := shutX C5
      have hk1 : Hid (k + 1 ≤ 7) := hlt
      clear C5 k1 k2 k3 RR htl hids hcl L4 R4 h
      go_upto_region 7 with (first | (guard_target =~ wpList _ _ _ ({ dst := _, op := Op.load 29 _, .. } :: _) _ _; refine wpList_load_mid rfl 29 (.tmp 36) rfl g3 (k * 32) rfl (ck.map bv) _ hr Tryd.underlying29 rfl s1 ?_) | (guard_target =~ wpList _ _ _ ({ dst := _, op := Op.store 29 _ _, .. } :: _) _ _; refine wpList_store_any rfl 29 (.tmp 5) (.tmp 37) rfl wr.heap.size (hb32 ck) rfl rfl 29 (hb32 z32) (Row.new wr (hb32 z32) 29) s2 s4 s3 ?_; intro w5 R5 t5))
      have C5 := HC5.out w5 R5 t5
      clear HC5 R5 t5 hr
      go_wp2_with (first | (go_at_call 56; refine C5.mono ?_; rintro e w6 ⟨rfl, L6, R6⟩; clear C5))
      go_roundw
      case rel => exact ⟨k + 1, hk1.out, by go_num, ⟨by rw [HE.out, ← List.append_assoc]; exact L6, R6⟩⟩
      case measure => have := hk1.out; simp [intOf]; omega
    · obtain rfl : k = 7 := by omega
      have hlt' : ¬ ((7 : Nat) : Int) < 7 := by omega
      have L5 := HI.out.1
      have hids := HX.out.2.1
      rw [List.take_of_length_le (by rw [hids]; exact Nat.le_refl _)] at L5
      have d5 := (HD.out wr _ L5).2.2
      have S5 := HS.out.2.2 _ L5
      clear HI HX L5 L4 hids R4 h
      go_wp2_with (first | (go_at_call 63; refine S5.mono ?_; rintro e w6 ⟨rfl, L6⟩))
      go_end0
      refine ⟨rfl, ?_⟩
      have := L6.pre t0
      rw [← HP.out] at this
      simpa [List.append_assoc] using this
end Go.Proofs.YtgimecdmleofeaaDoor
