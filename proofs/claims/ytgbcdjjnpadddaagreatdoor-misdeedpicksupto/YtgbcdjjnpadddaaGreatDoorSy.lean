/- Texts in one. -/
import Derived.Test.YtgbcdjjnpadddaaGreatDoorSx
import Derived.Test.YtgbcdjjnpadddaaGreatDoorMVb
import Derived.Test.YtgbcdjjnpadddaaGreatDoorQKb
import Derived.Test.YtgbcdjjnpadddaaGreatDoorG1
/- Evidence held against evidence; what else Verify calls. -/
namespace Go.Proofs.YtgbcdjjnpadddaaGreatDoor
open Go.RowKit
set_option linter.unusedVariables false

theorem eqFields_gen (w : World) (d : Nat) (xs ys : Array Value) (R : Nat → Bool) : ∀ fs : List Field, (∀ f ∈ fs, f.name ≠ "_" ∧ ∃ a b, (part f.type xs f.offset).run Tryz.prog w = .ok a w ∧ (part f.type ys f.offset).run Tryz.prog w = .ok b w ∧ (Op.equalIn d f.type a b).run Tryz.prog w = .ok (R f.offset) w) → (Op.eqFields d xs ys fs).run Tryz.prog w = .ok ((fs.map (·.offset)).all R) w
  | [], _ => by simp [Op.eqFields]
  | f :: fs, h => by
    obtain ⟨hn, a, b, h1, h2, h3⟩ := h f (by simp)
    have ih := eqFields_gen w d xs ys R fs (fun g hg => h g (by simp [hg]))
    simp only [Op.eqFields, Sem.run_bind, Sem.run_ite]
    split
    · simp only [h1, h2, h3, Result.andThen_ok]
      cases hr : R f.offset with
      | false => simp [hr]
      | true =>
        simp only [Bool.not_true, Bool.false_eq_true, if_false, ih]
        simp [hr]
    · next hq => exact absurd hq (by simpa using hn)
theorem names43 : ((Tryz.prog.fieldsOf 50).toList.all fun f => f.name != "_") = true := by kernel_rfl
def eqVtR (v u : Vt) : Nat → Bool
  | 0 => v.k == u.k
  | 1 => v.h == u.h
  | 2 => v.r == u.r
  | 3 => v.id == u.id
  | 35 => v.t == u.t
  | 36 => v.f == u.f
  | _ => v.se == u.se
/-- Alike? -/
def eqVtQ (v u : Vt) : Bool := [0, 1, 2, 3, 35, 36, 37].all (eqVtR v u)
theorem eqVt2 (w : World) (d : Nat) (v u : Vt) (h : v.ok) (g : u.ok) : (Op.equalIn (d + 3) 50 (.agg v.cs.toArray) (.agg u.cs.toArray)).run Tryz.prog w = .ok (eqVtQ v u) w := by
  rw [run_equalIn_struct w (d + 2) 50 _ _ (by kernel_rfl) (by kernel_rfl)]
  have ho : (Tryz.prog.fieldsOf 50).toList.map (·.offset) = [0, 1, 2, 3, 35, 36, 37] := by kernel_rfl
  have := eqFields_gen w (d + 2) v.cs.toArray u.cs.toArray (eqVtR v u) (Tryz.prog.fieldsOf 50).toList (fun f hf => ?_)
  · rw [ho] at this
    exact this
  refine ⟨by have := List.all_eq_true.1 names43 f hf; simpa using this, ?_⟩
  have hm : (f.type, f.offset) ∈ [(3, 0), (22, 1), (3, 2), (26, 3), (22, 35), (46, 36), (48, 37)] := by
    rw [← fields29]
    exact List.mem_map.2 ⟨f, hf, rfl⟩
  generalize f.type = t at *
  generalize f.offset = o at *
  simp only [List.mem_cons, Prod.mk.injEq, List.not_mem_nil, or_false] at hm
  rcases hm with ⟨rfl, rfl⟩ | ⟨rfl, rfl⟩ | ⟨rfl, rfl⟩ | ⟨rfl, rfl⟩ | ⟨rfl, rfl⟩ | ⟨rfl, rfl⟩ | ⟨rfl, rfl⟩
  · exact ⟨_, _, cell_part w (by kernel_rfl) (v.c0), cell_part w (by kernel_rfl) (u.c0), by rw [run_equalIn_int w (d + 1) 3 .i64 .i64 _ _ Tryz.underlying3]; rfl⟩
  · exact ⟨_, _, cell_part w (by kernel_rfl) (v.c1), cell_part w (by kernel_rfl) (u.c1), by rw [run_equalIn_int w (d + 1) 22 .u64 .u64 _ _ Tryz.underlying22]; rfl⟩
  · exact ⟨_, _, cell_part w (by kernel_rfl) (v.c2), cell_part w (by kernel_rfl) (u.c2), by rw [run_equalIn_int w (d + 1) 3 .i64 .i64 _ _ Tryz.underlying3]; rfl⟩
  · exact ⟨_, _, agg_part w (by kernel_rfl) qsize24 (Vt.x24 h), agg_part w (by kernel_rfl) qsize24 (Vt.x24 g), by rw [eqIn24 w d _ _ h.1 g.1]; rfl⟩
  · exact ⟨_, _, cell_part w (by kernel_rfl) (Vt.c35 h), cell_part w (by kernel_rfl) (Vt.c35 g), by rw [run_equalIn_int w (d + 1) 22 .u64 .u64 _ _ Tryz.underlying22]; rfl⟩
  · exact ⟨_, _, cell_part w (by kernel_rfl) (Vt.c36 h), cell_part w (by kernel_rfl) (Vt.c36 g), by rw [run_equalIn_int w (d + 1) 46 .u64 .u64 _ _ Tryz.underlying46]; rfl⟩
  · exact ⟨_, _, agg_part w (by kernel_rfl) mqsize27 (Vt.x27 h), agg_part w (by kernel_rfl) mqsize27 (Vt.x27 g), by rw [eqIn27 w d _ _ h.2 g.2]; rfl⟩
theorem eqVtl (w : World) (v u : Vt) (h : v.ok) (g : u.ok) : (binOp .eql 50 (.agg v.cs.toArray) (.agg u.cs.toArray)).run Tryz.prog w = .ok (.bool (eqVtQ v u)) w := by
  rw [run_eql_struct, eqVt2 w 9997 v u h g]
  rfl
theorem eqVtQ_iff (v u : Vt) : eqVtQ v u = true ↔ v = u := by
  obtain ⟨a0, a1, a2, a3, a4, a5, a6⟩ := v
  obtain ⟨b0, b1, b2, b3, b4, b5, b6⟩ := u
  simp [eqVtQ, eqVtR]
theorem names52 : ((Tryz.prog.fieldsOf 52).toList.all fun f => f.name != "_") = true := by kernel_rfl
/-- Two evidences, alike? -/
def eqEvQ (a b c d : Vt) : Bool := eqVtQ a c && eqVtQ b d
theorem eqEv (w : World) (a b c d : Vt) (ha : a.ok) (hb : b.ok) (hc : c.ok) (hd : d.ok) : (Op.equalIn 10000 52 (.agg (evC a b)) (.agg (evC c d))).run Tryz.prog w = .ok (eqEvQ a b c d) w := by
  rw [run_equalIn_struct w 9999 52 _ _ (by kernel_rfl) (by kernel_rfl)]
  have ho : (Tryz.prog.fieldsOf 52).toList.map (·.offset) = [0, 53] := by kernel_rfl
  have := eqFields_gen w 9999 (evC a b) (evC c d) (fun o => if o = 0 then eqVtQ a c else eqVtQ b d) (Tryz.prog.fieldsOf 52).toList (fun f hf => ?_)
  · rw [ho] at this
    simpa [eqEvQ] using this
  refine ⟨by have := List.all_eq_true.1 names52 f hf; simpa using this, ?_⟩
  have hm : (f.type, f.offset) ∈ [(50, 0), (50, 53)] := by
    rw [← fields32]
    exact List.mem_map.2 ⟨f, hf, rfl⟩
  generalize f.type = t at *
  generalize f.offset = o at *
  simp only [List.mem_cons, Prod.mk.injEq, List.not_mem_nil, or_false] at hm
  rcases hm with ⟨rfl, rfl⟩ | ⟨rfl, rfl⟩
  · exact ⟨_, _, agg_part w (by kernel_rfl) qsize29 (evC_a ha hb), agg_part w (by kernel_rfl) qsize29 (evC_a hc hd), eqVt2 w 9996 a c ha hc⟩
  · exact ⟨_, _, agg_part w (by kernel_rfl) qsize29 (evC_b ha hb), agg_part w (by kernel_rfl) qsize29 (evC_b hc hd), eqVt2 w 9996 b d hb hd⟩
theorem eqEvQ_iff (a b c d : Vt) : eqEvQ a b c d = true ↔ a = c ∧ b = d := by
  unfold eqEvQ
  rw [Bool.and_eq_true, eqVtQ_iff, eqVtQ_iff]

set_option maxRecDepth 100000 in
set_option maxHeartbeats 1000000 in
theorem isReg21 {w : World} {p br bt : Nat} {V : UInt64 → Value} {E : List UInt64} {R : List Rec} (h : Bk w p br bt V E R) : Calls Tryz.prog 31 #[.pointer (some ⟨p, 0, none⟩)] w fun e w' => e = .returned (.bool true) ∧ w' = w := by
  have hc := h.enter0
  go_enter Tryz.func31, Tryz.ntmps31
  go_wp2_with fail
  refine hc.mono ?_
  rintro e w1 ⟨rfl, rfl⟩
  go_wp2_with fail
  go_ret
  exact ⟨rfl, rfl⟩
end Go.Proofs.YtgbcdjjnpadddaaGreatDoor


/- Verify of a registry that no call made; what is sealed. -/
namespace Go.Proofs.YtgbcdjjnpadddaaGreatDoor
open Go.RowKit
set_option linter.unusedVariables false

theorem eql57_nil (a : Addr) (w : World) : (binOp .eql 60 (.pointer none) (.pointer (some a))).run Tryz.prog w = .ok (.bool false) w := by
  have h : ∀ d : Nat, (Op.equalIn (d + 1) 60 (.pointer none) (.pointer (some a))).run Tryz.prog w = .ok false w := fun d => by
    simp [Op.equalIn, run_underlying Tryz.underlying60]
  simp only [binOp]
  simp [Op.equal, Op.maxDepth, h 9999]
/-- A registry that no call made. -/
def NoR (w : World) (v : Value) : Prop := v = .pointer none ∨ ∃ p, v = .pointer (some ⟨p, 0, none⟩) ∧ w.cell? ⟨p, 0, none⟩ = some (.pointer none)
theorem NoR.turn {w w' : World} {v : Value} (h : NoR w v) (t : Turn no w w') : NoR w' v := by
  rcases h with h | ⟨p, h1, h2⟩
  · exact .inl h
  · exact .inr ⟨p, h1, t.keep h2 (fun q => q)⟩
theorem NoR.form {w : World} {v : Value} (h : NoR w v) : ∃ a, v = .pointer a := by
  rcases h with h | ⟨p, h1, h2⟩
  · exact ⟨_, h⟩
  · exact ⟨_, h1⟩
set_option maxRecDepth 100000 in
theorem made38_no (w : World) (v : Value) (h : NoR w v) : Calls Tryz.prog 48 #[v] w fun e w' => e = .returned (.bool false) ∧ w' = w := by
  rcases h with rfl | ⟨p, rfl, h0⟩
  · go_enter Tryz.func48, Tryz.ntmps48
    go_wp2_with fail
    go_ret
    exact ⟨rfl, rfl⟩
  · have e1 := eql57_nil
    go_enter Tryz.func48, Tryz.ntmps48
    go_wp2_with fail
    go_ret
    exact ⟨rfl, rfl⟩
set_option maxRecDepth 100000 in
theorem enter17_no (w : World) (v : Value) (h : NoR w v) (a : Int) : Calls Tryz.prog 25 #[v, .int .u64 a] w fun e w' => e = .returned (.tuple #[.pointer none, .int .i64 1]) ∧ w' = w := by
  have hm := made38_no w v h
  obtain ⟨b, rfl⟩ := h.form
  clear h
  go_enter Tryz.func25, Tryz.ntmps25
  go_wp2_with fail
  refine hm.mono ?_
  rintro e w1 ⟨rfl, rfl⟩
  go_wp2_with fail
  go_ret2
  exact ⟨rfl, rfl⟩
set_option maxRecDepth 100000 in
theorem isReg21_no (w : World) (v : Value) (h : NoR w v) : Calls Tryz.prog 31 #[v] w fun e w' => e = .returned (.bool false) ∧ w' = w := by
  have hc := enter17_no w v h 0
  obtain ⟨b, rfl⟩ := h.form
  clear h
  go_enter Tryz.func31, Tryz.ntmps31
  go_wp2_with fail
  refine hc.mono ?_
  rintro e w1 ⟨rfl, rfl⟩
  go_wp2_with fail
  go_ret
  exact ⟨rfl, rfl⟩
set_option maxRecDepth 100000 in
set_option maxHeartbeats 1000000 in
theorem verify7_no (w : World) (SA EA : Array Value) (v : Value) (h : NoR w v) : Calls Tryz.prog 12 #[.agg SA, v, .agg EA] w fun e w' => e = .returned (.int .i64 1) ∧ Turn no w w' := by
  obtain ⟨w0, hw0⟩ : ∃ w0, (w.alloc (.cells SA 37)).alloc (.cells EA 52) = w0 := ⟨_, rfl⟩
  have T0 : Turn no w w0 := by rw [← hw0]; exact ((Turn.refl no w).alloc _).alloc _
  have hc := isReg21_no w0 v (h.turn T0)
  obtain ⟨b, rfl⟩ := h.form
  clear h
  go_enter Tryz.func12, Tryz.ntmps12
  go_upto_region 1 with fail
  try rw [hw0]
  clear hw0
  go_wp2_with fail
  refine hc.mono ?_
  rintro e w1 ⟨rfl, rfl⟩
  go_wp2_with fail
  go_ret
  exact ⟨rfl, T0⟩
end Go.Proofs.YtgbcdjjnpadddaaGreatDoor


/- What is sealed: of both. -/
namespace Go.Proofs.YtgbcdjjnpadddaaGreatDoor
open Go.RowKit
set_option linter.unusedVariables false

/-- Whose vote it is. -/
def auE (x : Vt) : UInt64 := UInt64.ofNat x.f.toNat
theorem auE_f {x : Vt} (h : x.fits) : x.f = ((auE x).toNat : Int) := by
  obtain ⟨_, _, _, h1, h2⟩ := h
  have e : (UInt64.ofNat x.f.toNat).toNat = x.f.toNat := by
    rw [UInt64.toNat_ofNat']
    exact Nat.mod_eq_of_lt (by omega)
  unfold auE
  rw [e]
  omega
/-- Is a vote sealed by its sender? -/
def sealQ (ch : ByteArray) (R : List Rec) (x : Vt) : Bool := decide (plainSv ch x = 0) && (decide ((auE x, stBv ch x) ∈ R) && (x.se == sealB (auE x) (stBv ch x)))
theorem stBv_len {ch : ByteArray} {x : Vt} (h : x.ok) (hp : plainSv ch x = 0) : (stBv ch x).length ≤ 200 := by
  have hc : ch.size ≤ 16 := by
    unfold plainSv at hp
    by_cases q : cB ch = true
    · simp only [cB, Bool.and_eq_true, decide_eq_true_eq] at q
      omega
    · rw [if_neg q] at hp; cases hp
  have h1 := voB_len h.1
  have h2 := varE_le ch.size
  have h3 : ch.data.toList.length = ch.size := by rw [Array.length_toList]; rfl
  simp only [stBv, List.length_append, leB_length]
  omega
set_option maxRecDepth 100000 in
set_option maxHeartbeats 4000000 in
theorem isSealed26 {w : World} {p br bt : Nat} {V : UInt64 → Value} {E : List UInt64} {R : List Rec} (h : Bk w p br bt V E R) (ch : ByteArray) (x : Vt) (ho : x.fits) (hl : Laid1 w) (h3 : 3 ≤ w.heap.size) (hp2 : p ≠ 2) :
    Calls Tryz.prog 38 #[.string ch, .pointer (some ⟨p, 0, none⟩), .agg x.cs.toArray] w fun e w' => e = .returned (.bool (sealQ ch R x)) ∧ Bk w' p br bt V E R ∧ Turn (fun k => k = p) w w' := by
  obtain ⟨w0, hw0⟩ : ∃ w0, w.alloc (.cells x.cs.toArray 50) = w0 := ⟨_, rfl⟩
  have T0 : Turn no w w0 := by rw [← hw0]; exact (Turn.refl no w).alloc _
  have R0 : Row w0 w.heap.size x.cs.toArray 50 := by rw [← hw0]; exact Row.new w _ 50
  have hpw : p < w.heap.size := h.lt (.inl rfl)
  have hv := voteBytes8 w0 ch x ho
  have c36 := (R0.vt ho.1)
  have iC : (Tryz.prog.info? 50).map (·.size) = some x.cs.toArray.size := by rw [Vt.size ho.1]; exact qsize29
  have iS : (Tryz.prog.info? 48).map (·.size) = some (x.se.map bv).length := by rw [List.length_map, ho.1.2]; exact mqsize27
  have HF : Shut (∀ W, Turn no w0 W → Row W w.heap.size x.cs.toArray 50 ∧ W.cell? ⟨w.heap.size, 36, none⟩ = some (.int .u64 ((auE x).toNat : Int)) ∧ W.rangeAt w.heap.size 37 (x.se.map bv)) := fun W t => by
    have R := R0.turn t (fun q => q)
    refine ⟨R, by rw [← auE_f ho]; exact R.cell 36 _ (Vt.c36 ho.1), fun j u hu => R.cell (37 + j) _ (Vt.cse ho.1 j u hu)⟩
  have HB : Shut (∀ W, Turn no w W → Bk W p br bt V E R) := fun W t => h.turn_no t
  have hlen := fun q : plainSv ch x = 0 => stBv_len ho.1 q
  have hsl := ho.1.2
  have HL : Shut (∀ W, Turn no w W → Laid1 W ∧ 3 ≤ W.heap.size) := fun W t => ⟨hl.turn t (fun q => q), by have := t.size; omega⟩
  have HT0 := shut T0
  clear h hl h3 c36 ho T0
  obtain ⟨sq, hsq0⟩ : ∃ sq, Hid (sealQ ch R x = sq) := ⟨_, rfl⟩
  rw [show sealQ ch R x = sq from hsq0.out]
  go_enter Tryz.func38, Tryz.ntmps38
  go_upto_region 1 with fail
  try rw [hw0]
  clear hw0
  generalize hC : x.cs.toArray = C at *
  clear hC
  go_upto_region 2 with (first | (guard_target =~ wpList _ _ _ ({ dst := some 11, .. } :: _) _ _; refine wpList_load_row rfl 50 (.tmp 5) rfl w.heap.size rfl 50 C _ _ R0 Tryz.underlying50 rfl iC ?_) | (go_at_call 67; refine hv.mono ?_; clear hv; rintro e w1 ⟨vb, rfl, OB, fB, t1⟩))
  obtain ⟨RC, c36, cse⟩ := HF.out w1 t1
  have T1 := HT0.out.then_no t1
  obtain ⟨ab, nb, cb, evb⟩ := OB.shp
  by_cases hp : plainSv ch x = 0
  · have hsq : sealQ ch R x = (decide ((auE x, stBv ch x) ∈ R) && (x.se == sealB (auE x) (stBv ch x))) := by simp [sealQ, hp]
    have hsb : sBv ch x = stBv ch x := by simp [sBv, hp]
    rw [hsb] at OB
    have hck := (HB.out w1 T1).check (auE x) vb (stBv ch x) OB.bs (fun _ q => by have := fB p q; have := HT0.out.size; omega) x.se hsl (HL.out w1 T1).1 (HL.out w1 T1).2 hp2 (fun _ => by have := hlen hp; omega)
    rw [← hsq, show sealQ ch R x = sq from hsq0.out] at hck
    rw [hp]
    have HT1 := shut T1
    clear hsq hsq0 hsb OB hlen fB HB HF HL R0 RC t1 T1 HT0 hp
    subst evb
    generalize x.se.map bv = SE at *
    generalize auE x = ax at *
    go_wp2_with (first | (guard_target =~ wpList _ _ _ ({ dst := some 23, .. } :: _) _ _; refine wpList_load_midG (by kernel_rfl) 48 (.tmp 22) rfl w.heap.size 37 rfl SE _ cse Tryz.underlying48 rfl iS ?_) | (go_at_call 68; refine hck.mono ?_; clear hck; rintro e w2 ⟨rfl, B2, t2⟩))
    have T2 := HT1.out.of_no.trans t2 (fun _ _ q => q)
    go_ret
    exact ⟨rfl, B2, T2⟩
  · have hsq : sealQ ch R x = false := by simp [sealQ, hp]
    have hp' : (plainSv ch x == 0) = false := by simpa using hp
    have HB1 := shut (HB.out w1 T1)
    have HSQ : Hid (sq = false) := by show _ = _; rw [← hsq0.out]; exact hsq
    have HT1 := shut T1
    clear hsq OB hlen fB HB HF HL R0 RC t1 T1 HT0 hp cse c36
    subst evb
    go_wp2_with fail
    go_ret
    exact ⟨by rw [HSQ.out]; rfl, HB1.out, HT1.out.of_no⟩
theorem evC_at {a b : Vt} (ha : a.ok) : (evC a b)[1]? = some (.int .u64 a.h) ∧ (evC a b)[36]? = some (.int .u64 a.f) := by
  have h1 := a.c1
  have h2 := Vt.c36 ha
  have hl := a.len ha
  simp only [List.getElem?_toArray] at h1 h2
  constructor
  · simp only [evC, List.getElem?_toArray]
    rw [List.getElem?_append_left (by omega)]
    exact h1
  · simp only [evC, List.getElem?_toArray]
    rw [List.getElem?_append_left (by omega)]
    exact h2
theorem evC_ra {w : World} {g : Nat} {a b : Vt} (r : Row w g (evC a b) 52) (ha : a.ok) : w.rangeAt g 0 a.cs ∧ w.rangeAt g 53 b.cs := by
  have hl := a.len ha
  constructor
  · intro j u hu
    rw [Nat.zero_add]
    refine r.cell j u ?_
    simp only [evC, List.getElem?_toArray]
    rw [List.getElem?_append_left (List.getElem?_eq_some_iff.1 hu).1]
    exact hu
  · intro j u hu
    refine r.cell (53 + j) u ?_
    simp only [evC, List.getElem?_toArray]
    rw [List.getElem?_append_right (by omega), hl, show 53 + j - 53 = j by omega]
    exact hu
set_option maxRecDepth 100000 in
set_option maxHeartbeats 2000000 in
theorem pairOf25 (w : World) (EA : Array Value) (x a : Nat) (h1 : EA[1]? = some (.int .u64 x)) (h36 : EA[36]? = some (.int .u64 a)) : Calls Tryz.prog 30 #[.agg EA] w fun e w' => e = .returned (.agg #[.int .u64 x, .int .u64 a]) ∧ Turn no w w' := by
  obtain ⟨w0, hw0⟩ : ∃ w0, (w.alloc (.cells EA 52)).alloc (.cells #[.int .u64 0, .int .u64 0] 101) = w0 := ⟨_, rfl⟩
  have T0 : Turn no w w0 := by rw [← hw0]; exact ((Turn.refl no w).alloc _).alloc _
  have R0 : Row w0 w.heap.size EA 52 := by rw [← hw0]; exact (Row.new w EA 52).alloc _
  have R1 : Row w0 (w.heap.size + 1) #[.int .u64 0, .int .u64 0] 101 := by rw [← hw0]; exact Row.newAt _ _ _ _ (by simp)
  have c1 := R0.cell 1 _ h1
  have c36 := R0.cell 36 _ h36
  have z0 := R1.cell 0 _ rfl
  have z1 := R1.cell 1 _ rfl
  have f0 := R1.frozen 0
  have f1 := R1.frozen 1
  have RF := (R1.set 0 (.int .u64 x)).set 1 (.int .u64 a)
  have TF : Turn no w ((w0.setCell ⟨w.heap.size + 1, 0, none⟩ (.int .u64 x)).setCell ⟨w.heap.size + 1, 1, none⟩ (.int .u64 a)) := (T0.setCell (p := ⟨w.heap.size + 1, 0, none⟩) (fun q => by have q' : w.heap.size + 1 < w.heap.size := q; omega) _).setCell (p := ⟨w.heap.size + 1, 1, none⟩) (fun q => by have q' : w.heap.size + 1 < w.heap.size := q; omega) _
  clear R0 R1 T0 h1 h36
  go_enter Tryz.func30, Tryz.ntmps30
  go_upto_region 1 with fail
  try rw [hw0]
  clear hw0
  go_wp2_with fail
  exact ⟨rfl, _, results_cell_row (g := w.heap.size + 1) (t := 101) rfl _ _ _ _ _ rfl RF Tryz.underlying101 rfl (by kernel_rfl), rfl, TF⟩
set_option maxRecDepth 100000 in
set_option maxHeartbeats 4000000 in
theorem rsealed33 {w : World} {q : Nat} {ve vr : Value} {E : List UInt64} {R : List Rec} (h : Rf w q ve vr E R) (SA : Array Value) (c : ByteArray) (age hh : Nat) (pv ov : Value) (hS : StC SA c age hh pv ov) (x : Vt) (ho : x.fits) (hl : Laid0 w) (h3 : 3 ≤ w.heap.size) :
    Calls Tryz.prog 71 #[.agg SA, .pointer (some ⟨q, 0, none⟩), .agg x.cs.toArray] w fun e w' => e = .returned (.bool (sealQ c R x)) ∧ Turn no w w' := by
  obtain ⟨w0, hw0⟩ : ∃ w0, (w.alloc (.cells SA 37)).alloc (.cells x.cs.toArray 50) = w0 := ⟨_, rfl⟩
  have T0 : Turn no w w0 := by rw [← hw0]; exact ((Turn.refl no w).alloc _).alloc _
  have RS : Row w0 w.heap.size SA 37 := by rw [← hw0]; exact (Row.new w SA 37).alloc _
  have R0 : Row w0 (w.heap.size + 1) x.cs.toArray 50 := by rw [← hw0]; exact Row.newAt _ _ _ _ (by simp)
  have cc := RS.cell 0 _ hS.ch
  have hv := rvoteBytes11 w0 c x ho
  have iC : (Tryz.prog.info? 50).map (·.size) = some x.cs.toArray.size := by rw [Vt.size ho.1]; exact qsize29
  have iS : (Tryz.prog.info? 48).map (·.size) = some (x.se.map bv).length := by rw [List.length_map, ho.1.2]; exact mqsize27
  have HF : Shut (∀ W, Turn no w0 W → W.cell? ⟨w.heap.size + 1, 36, none⟩ = some (.int .u64 ((auE x).toNat : Int)) ∧ W.rangeAt (w.heap.size + 1) 37 (x.se.map bv)) := fun W t => by
    have R := R0.turn t (fun q => q)
    refine ⟨by rw [← auE_f ho]; exact R.cell 36 _ (Vt.c36 ho.1), fun j u hu => R.cell (37 + j) _ (Vt.cse ho.1 j u hu)⟩
  have HB : Shut (∀ W, Turn no w W → Rf W q ve vr E R) := fun W t => h.turn_no t
  have hlen := fun q : plainSv c x = 0 => stBv_len ho.1 q
  have hsl := ho.1.2
  have HL : Shut (∀ W, Turn no w W → Laid0 W ∧ 3 ≤ W.heap.size) := fun W t => ⟨hl.turn t (fun q => q), by have := t.size; omega⟩
  have HT0 := shut T0
  clear h hl h3 ho T0 hS RS
  obtain ⟨sq, hsq0⟩ : ∃ sq, Hid (sealQ c R x = sq) := ⟨_, rfl⟩
  rw [show sealQ c R x = sq from hsq0.out]
  go_enter Tryz.func71, Tryz.ntmps71
  go_upto_region 1 with fail
  try rw [hw0]
  clear hw0
  generalize hC : x.cs.toArray = C at *
  clear hC
  go_upto_region 2 with (first | (guard_target =~ wpList _ _ _ ({ dst := some 12, .. } :: _) _ _; refine wpList_load_row rfl 50 (.tmp 5) rfl (w.heap.size + 1) rfl 50 C _ _ R0 Tryz.underlying50 rfl iC ?_) | (go_at_call 52; refine hv.mono ?_; clear hv; rintro e w1 ⟨vb, rfl, OB, fB, t1⟩))
  obtain ⟨c36, cse⟩ := HF.out w1 t1
  have T1 := HT0.out.then_no t1
  obtain ⟨ab, nb, cb, evb⟩ := OB.shp
  by_cases hp : plainSv c x = 0
  · have hsq : sealQ c R x = (decide ((auE x, stBv c x) ∈ R) && (x.se == sealB (auE x) (stBv c x))) := by simp [sealQ, hp]
    have hsb : sBv c x = stBv c x := by simp [sBv, hp]
    rw [hsb] at OB
    have hck := rcheck47 (HB.out w1 T1) (auE x) vb (stBv c x) OB.bs x.se hsl (HL.out w1 T1).1 (HL.out w1 T1).2 (fun _ => by have := hlen hp; omega)
    rw [← hsq, show sealQ c R x = sq from hsq0.out] at hck
    rw [hp]
    have HT1 := shut T1
    clear hsq hsq0 hsb OB hlen fB HB HF HL R0 t1 T1 HT0 hp
    subst evb
    generalize x.se.map bv = SE at *
    generalize auE x = ax at *
    go_wp2_with (first | (guard_target =~ wpList _ _ _ ({ dst := some 24, .. } :: _) _ _; refine wpList_load_midG (by kernel_rfl) 48 (.tmp 23) rfl (w.heap.size + 1) 37 rfl SE _ cse Tryz.underlying48 rfl iS ?_) | (go_at_call 97; refine hck.mono ?_; clear hck; rintro e w2 ⟨rfl, t2⟩))
    have T2 := HT1.out.then_no t2
    go_ret
    exact ⟨rfl, T2⟩
  · have hsq : sealQ c R x = false := by simp [sealQ, hp]
    have hp' : (plainSv c x == 0) = false := by simpa using hp
    have HSQ : Hid (sq = false) := by show _ = _; rw [← hsq0.out]; exact hsq
    have HT1 := shut T1
    clear hsq OB hlen fB HB HF HL R0 t1 T1 HT0 hp cse c36
    subst evb
    go_wp2_with fail
    go_ret
    exact ⟨by rw [HSQ.out]; rfl, HT1.out⟩
end Go.Proofs.YtgbcdjjnpadddaaGreatDoor

