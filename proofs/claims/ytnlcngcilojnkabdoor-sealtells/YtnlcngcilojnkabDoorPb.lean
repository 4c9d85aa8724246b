/- Texts in one. -/
import Derived.Test.YtnlcngcilojnkabDoorP5
/- Sign on both sides: what it answers, what it leaves. -/
namespace Go.Proofs.YtnlcngcilojnkabDoor
open Go.RowKit Go.Maps Go.MuLone
set_option linter.unusedVariables false

def sgY (a : UInt64) (ms : List UInt8) : List UInt8 := if ms.length ≤ 1048576 then sealB a ms else List.replicate 16 0
def sgE (ms : List UInt8) : Int := if ms.length ≤ 1048576 then 0 else 4
def sgR (R : List Rec) (a : UInt64) (ms : List UInt8) : List Rec := if ms.length ≤ 1048576 then noted R a ms else R
theorem sgY_len (a : UInt64) (ms : List UInt8) : (sgY a ms).length = 16 := by
  unfold sgY
  split
  · exact sealB_len a ms
  · simp
theorem sgR_len (R : List Rec) (a : UInt64) (ms : List UInt8) : (sgR R a ms).length ≤ R.length + 1 := by
  unfold sgR noted
  split
  · split
    · omega
    · simp
  · omega
theorem sgR_small {R : List Rec} (h : ∀ r ∈ R, r.2.length ≤ 1048576) (a : UInt64) (ms : List UInt8) : ∀ r ∈ sgR R a ms, r.2.length ≤ 1048576 := by
  intro r hr
  unfold sgR noted at hr
  split at hr
  · split at hr
    · exact h r hr
    · rcases List.mem_append.1 hr with q | q
      · exact h r q
      · simp at q
        subst q
        assumption
  · exact h r hr
section
variable {w : World} {d : Pd}
theorem Z16_map : Z16 = ((List.replicate 16 (0 : UInt8)).map bv).toArray := rfl
theorem psign (S : Pz w d) (j s : Nat) (a : UInt64) (hs : d.ss[j]? = some s) (ha : d.E[j]? = some a) (va : Value) (ms : List UInt8) (hb : Bs w va ms) (hva : ∀ g, va.ownBlock = some g → ¬ Fp d.p d.br d.bt d.V g) (hl : Laid1 w) (h2 : 2 ≤ w.heap.size) (h1 : ¬ Fp d.p d.br d.bt d.V 1)
    (hm : d.E.length + d.R.length ≤ 4398046511104) : Calls Tryd.prog 41 #[.pointer (some ⟨s, 0, none⟩), va] w fun e w' =>
    e = .returned (.tuple #[.agg ((sgY a ms).map bv).toArray, .int .i64 (sgE ms)]) ∧ ∃ V', Bk w' d.p d.br d.bt V' d.E (sgR d.R a ms) ∧ (∀ b g, (V' b).ownBlock = some g → (d.V b).ownBlock = some g ∨ w.heap.size ≤ g) ∧ Turn (Fp d.p d.br d.bt d.V) w w' := by
  have hq := S.sg j s a hs ha
  by_cases hlen : ms.length ≤ 1048576
  · have := S.bk.sign s a hq (List.mem_of_getElem? ha) va ms hb (fun _ => hva) hl h2 h1 hlen (by simp only [maxLen]; omega) (by omega)
    refine this.mono fun e w' ⟨he, V', hB, hf, ht⟩ => ⟨?_, V', ?_, fun b g hg => ?_, ht⟩
    · rw [he, sgY, if_pos hlen, sgE, if_pos hlen]; rfl
    · rw [sgR, if_pos hlen]; exact hB
    · rcases hf b g hg with q | q
      · exact .inl q
      · exact .inr (by omega)
  · have hp0 : w.cell? ⟨d.p, 0, none⟩ = some (.pointer (some ⟨d.p, 0, none⟩)) := by obtain ⟨D1, D2, hr, _⟩ := S.bk.reg; exact hr.c0
    refine (sign41_big w s d.p a va ms hq hp0 hb (by omega)).mono fun e w' ⟨he, ht⟩ => ⟨?_, d.V, ?_, fun b g hg => .inl hg, ht.of_no⟩
    · rw [he, sgY, if_neg hlen, sgE, if_neg hlen, Z16_map]
    · rw [sgR, if_neg hlen]; exact S.bk.turn_no ht
theorem dsign {w : World} {q : Nat} {ve vr : Value} {E : List UInt64} {R : List Rec} (h : Rf w q ve vr E R) (t : Nat) (a : UInt64) (hs : Rsg w t q a) (va : Value) (ms : List UInt8) (hb : Bs w va ms) (hva : ∀ g, va.ownBlock = some g → g ≠ q ∧ vr.ownBlock ≠ some g) (hl : Laid0 w) (h2 : 2 ≤ w.heap.size) (hq0 : q ≠ 0) (hr0 : vr.ownBlock ≠ some 0) (hRl : R.length ≤ 1599289640401) :
    Calls Tryd.prog 42 #[.pointer (some ⟨t, 0, none⟩), va] w fun e w' =>
    e = .returned (.tuple #[.agg ((sgY a ms).map bv).toArray, .int .i64 (sgE ms)]) ∧ ∃ vr', Rf w' q ve vr' E (sgR R a ms) ∧ (∀ g, vr'.ownBlock = some g → vr.ownBlock = some g ∨ w.heap.size ≤ g) ∧ Turn (fun k => k = q ∨ vr.ownBlock = some k) w w' := by
  by_cases hlen : ms.length ≤ 1048576
  · refine (rsign42 h t a hs va ms hb hva hl h2 hq0 hr0 hlen hRl).mono fun e w' ⟨he, vr', hB, hf, ht⟩ => ⟨?_, vr', ?_, hf, ht⟩
    · rw [he, sgY, if_pos hlen, sgE, if_pos hlen]; rfl
    · rw [sgR, if_pos hlen]; exact hB
  · refine (rsign42_big t a hs va ms hb (by omega)).mono fun e w' ⟨he, ht⟩ => ⟨?_, vr, ?_, fun g hg => .inl hg, ht.of_no⟩
    · rw [he, sgY, if_neg hlen, sgE, if_neg hlen, Z16_map]
    · rw [sgR, if_neg hlen]; exact h.turn_no ht
end
section
variable {base : Nat} {w w1 w2 : World} {tw : Nat} {d : Nat → Pd} {vq : Value} {Q : List (List UInt8)} {k : Nat}
theorem Tw.signed (h : Tw base w tw d vq Q) (hk : k < 2) (a : UInt64) (ms : List UInt8) {V' : UInt64 → Value} {vr' : Value}
    (t1 : Turn (Fp (d k).p (d k).br (d k).bt (d k).V) w w1) (bk1 : Bk w1 (d k).p (d k).br (d k).bt V' (d k).E (sgR (d k).R a ms)) (fV : ∀ b g, (V' b).ownBlock = some g → ((d k).V b).ownBlock = some g ∨ w.heap.size ≤ g)
    (t2 : Turn (fun g => g = (d k).q ∨ (d k).vr.ownBlock = some g) w1 w2) (rf2 : Rf w2 (d k).q (d k).ve vr' (d k).E (sgR (d k).R a ms)) (fvr : ∀ g, vr'.ownBlock = some g → (d k).vr.ownBlock = some g ∨ w1.heap.size ≤ g) :
    Tw base w2 tw (updP d k { d k with V := V', vr := vr', R := sgR (d k).R a ms }) vq Q ∧ Turn (fun g => base ≤ g) w w2 := by
  have S := h.side k hk
  obtain ⟨_, os1, ot1, sg1, rs1⟩ := S.keepR t1
  have lt2 : ∀ g, (g = (d k).q ∨ (d k).vr.ownBlock = some g) → RFp (d k).q (d k).ve (d k).vr g := fun g e => by
    rcases e with e | e
    · exact .inl e
    · exact .inr (.inr e)
  have offF : ∀ g, (g = (d k).q ∨ (d k).vr.ownBlock = some g) → ¬ Fp (d k).p (d k).br (d k).bt (d k).V g := fun g e hg => by
    rcases e with e | e
    · subst e; exact S.bk.away S.rf.row (by decide) (by decide) hg
    · obtain ⟨c, ho⟩ := S.rf.orr.obj e; exact S.bk.away ho (by decide) (by decide) hg
  have ltw : ∀ g, (g = (d k).q ∨ (d k).vr.ownBlock = some g) → g < w.heap.size := fun g e => S.rf.lt (lt2 g e)
  have sz1 := t1.size
  have bk2 := bk1.turn t2 (fun g hg e => by
    rcases hg with q | q | q | ⟨b, q⟩
    · exact offF g e (.inl q)
    · exact offF g e (.inr (.inl q))
    · exact offF g e (.inr (.inr (.inl q)))
    · rcases fV b g q with q | q
      · exact offF g e (.inr (.inr (.inr ⟨b, q⟩)))
      · have := ltw g e; omega)
  have offo : ∀ {g : Nat} {c : Array Value} {e : TypeId} {f : Nat × Nat}, w.heap[g]? = some (.cells c e f) → e ≠ 80 → e ≠ 28 → e ≠ 100 → ¬ (g = (d k).q ∨ (d k).vr.ownBlock = some g) := fun ho n1 n2 n3 e => S.off_rf ho n1 n2 n3 (lt2 _ e)
  refine h.side_upd hk ((t1.mono (fun g _ e => Or.inl e)).trans t2 (fun g _ e => Or.inr (.inl (lt2 g e)))) _ rfl rfl rfl rfl ⟨bk2, rf2, ?_, ?_, S.len, S.lent, fun j s a' e1 e2 => ?_, fun j s a' e1 e2 => ?_, sgR_small S.small a ms⟩ (fun g hg => ?_)
  · exact os1.turn t2 (fun g hg e => by obtain ⟨c, ho⟩ := S.os.obj hg; exact offo ho (by decide) (by decide) (by decide) e)
  · exact ot1.turn t2 (fun g hg e => by obtain ⟨c, ho⟩ := S.ot.obj hg; exact offo ho (by decide) (by decide) (by decide) e)
  · exact Row.turn (sg1 j s a' e1 e2) t2 (offo (S.sg j s a' e1 e2) (by decide) (by decide) (by decide))
  · exact Row.turn (rs1 j s a' e1 e2) t2 (offo (S.rs j s a' e1 e2) (by decide) (by decide) (by decide))
  · rcases hg with (q | q | q | ⟨b, q⟩) | (q | q | q) | q | q | q | q
    · exact .inl (.inl (.inl q))
    · exact .inl (.inl (.inr (.inl q)))
    · exact .inl (.inl (.inr (.inr (.inl q))))
    · rcases fV b g q with q | q
      · exact .inl (.inl (.inr (.inr (.inr ⟨b, q⟩))))
      · exact .inr q
    · exact .inl (.inr (.inl (.inl q)))
    · exact .inl (.inr (.inl (.inr (.inl q))))
    · rcases fvr g q with q | q
      · exact .inl (.inr (.inl (.inr (.inr q))))
      · exact .inr (by omega)
    · exact .inl (.inr (.inr (.inl q)))
    · exact .inl (.inr (.inr (.inr (.inl q))))
    · exact .inl (.inr (.inr (.inr (.inr (.inl q)))))
    · exact .inl (.inr (.inr (.inr (.inr (.inr q)))))
end
end Go.Proofs.YtnlcngcilojnkabDoor

/- signs: Sign on both sides of a pair. -/
namespace Go.Proofs.YtnlcngcilojnkabDoor
open Go.RowKit Go.Maps Go.MuLone
set_option linter.unusedVariables false

theorem list16 (L : List Value) (h : L.length = 16) : ∃ y0 y1 y2 y3 y4 y5 y6 y7 y8 y9 y10 y11 y12 y13 y14 y15, L = [y0, y1, y2, y3, y4, y5, y6, y7, y8, y9, y10, y11, y12, y13, y14, y15] := by
  match L, h with
  | [y0, y1, y2, y3, y4, y5, y6, y7, y8, y9, y10, y11, y12, y13, y14, y15], _ => exact ⟨y0, y1, y2, y3, y4, y5, y6, y7, y8, y9, y10, y11, y12, y13, y14, y15, rfl⟩
section
variable {P : Program} {ops : Array Oper} {rest : List Oper} {o : Oper} {a : Act} {w : World} {Q : Exit → Act → World → Prop}
theorem wpList_load_rowGX (hgd : Region.wanted o (yielded ops a.tmps) = true) (ty : TypeId) (x : Operand) (ho : o.op = .load ty x)
    (b : Nat) (hx : a.eval x = .pointer (some ⟨b, 0, none⟩)) (cs : Array Value) (e : TypeId) (d : TypeDesc) (hc : Row w b cs e)
    (hu : P.underlying ty = some d) (hd : d.isRow = true) (hi : (P.info? ty).map (·.size) = some cs.size)
    (h : wpList P ops Q rest (a.put o.dst (.agg cs)) w) : wpList P ops Q (o :: rest) a w :=
  wpList_step fun K hK => by
    simp only [hgd, if_true]
    have := wp_load_mid (P := P) (a := a) (w := w) (K := K) (Q := Q) ty x ho b 0 hx cs.toList d (fun j u hu => hc.cell (0 + j) _ (by rw [Nat.zero_add]; simpa using hu)) hu hd (by rw [hi]; simp) (by rw [Array.toArray_toList]; exact hK _ _ h)
    exact this
end
theorem eql31_same (w : World) (Y : List UInt8) (hY : Y.length = 16) : (binOp .eql 31 (.agg (Y.map bv).toArray) (.agg (Y.map bv).toArray)).run Tryd.prog w = .ok (.bool true) w := by
  have := eql33 w Y Y hY hY
  simpa using this
theorem info31s : (Tryd.prog.info? 31).map (fun i => (i.zero, i.size, i.bytes)) = some (some (.agg #[.int .u8 0, .int .u8 0, .int .u8 0, .int .u8 0, .int .u8 0, .int .u8 0, .int .u8 0, .int .u8 0, .int .u8 0, .int .u8 0, .int .u8 0, .int .u8 0, .int .u8 0, .int .u8 0, .int .u8 0, .int .u8 0]), 16, 16) := by kernel_rfl
theorem src_seal (w W : World) (Y : List UInt8) (hY : Y.length = 16) (T : Turn no (w.alloc (.cells (Y.map bv).toArray 31)) W) : Src Tryd.prog 16 42 (.slice (some ⟨w.heap.size, 0, none⟩) 1 1) 1 (Y.map bv) W := by
  refine Src.ofSlice _ Tryd.underlying42 _ _ _ _ (by simp [hY]) (fun j u hu => ?_) (bv_one Y)
  refine T.keep ?_ (fun q => q)
  rw [Addr.add_lit, cell_of_row _ w.heap.size (0 + j) _ 31 (0, 0) (heap_alloc_new w _)]
  rw [Nat.zero_add]
  simpa using hu
section
variable {base : Nat} {w w' : World} {tw : Nat} {d : Nat → Pd} {vq : Value} {Q : List (List UInt8)} {k : Nat}
/-- Bytes that turn, new ones. -/
theorem Tw.turn5 (h : Tw base w tw d vq Q) {g : Nat} {c : Array Value} {f : Nat × Nat} (ho : w.heap[g]? = some (.cells c 5 f)) (hg : base ≤ g) (t : Turn (fun b => b = g) w w') : Tw base w' tw d vq Q ∧ Turn (fun b => base ≤ b) w w' := by
  refine ⟨⟨h.row.turn t (fun q => ?_), fun j hj => (h.side j hj).turn t (fun b hb q => ?_), h.apart, h.book.turn t (fun b hb q => ?_), h.each, h.new, h.newq, h.newt, Nat.le_trans h.size t.size⟩, t.mono (fun b _ q => ?_)⟩
  · have q : tw = g := q
    subst q
    exact absurd (tag_ne ho h.row) (by decide)
  · have q : b = g := q
    subst q
    exact (h.side j hj).away ho (by decide) hb
  · have q : b = g := q
    subst q
    obtain ⟨c', ho'⟩ := h.book.obj hb
    exact absurd (tag_ne ho ho') (by decide)
  · have q : b = g := q
    subst q
    exact hg
/-- A seal more. -/
theorem Tw.seals (h : Tw base w tw d vq Q) (Y : List UInt8) (hY : Y.length = 16) (hQl : Q.length ≤ 4398046511104) : ∃ v' w', (∀ ty, (Builtin.append_ #[42, 42] ty #[vq, .slice (some ⟨w.heap.size, 0, none⟩) 1 1]).run Tryd.prog (w.alloc (.cells (Y.map bv).toArray 31)).drew = .ok v' w') ∧
    Row w' tw (twC d vq) 44 ∧ (∃ a n c, v' = .slice a n c) ∧ Turn (fun g => vq.ownBlock = some g) w w' ∧ Tw base (w'.setCell ⟨tw, 8, none⟩ v') tw d v' (Q ++ [Y]) ∧ Turn (fun g => base ≤ g) w (w'.setCell ⟨tw, 8, none⟩ v') := by
  have t1 : Turn no w (w.alloc (.cells (Y.map bv).toArray 31)).drew := ((Turn.refl no w).alloc _).drew
  have o1 := h.book.turn_no t1
  obtain ⟨v', w', hr, ho, hg⟩ := run_append_srcN (P := Tryd.prog) (t := 42) (tx := 42) Tryd.underlying42 info31s rfl (by omega) 42 _ vq Q.length _ o1 (.slice (some ⟨w.heap.size, 0, none⟩) 1 1) 1 (Y.map bv) (src_seal w _ Y hY (Turn.refl no _).drew) (by omega) (by simp only [maxLen]; omega)
  have tq : Turn (fun g => vq.ownBlock = some g) w w' := t1.of_no.trans hg.turn (fun _ _ q => q)
  have r2 : Row w' tw (twC d vq) 44 := h.row.turn tq (fun e => h.vq_tw e)
  have tS : Turn (fun g => g = tw) w' (w'.setCell ⟨tw, 8, none⟩ v') := (Turn.refl (fun g => g = tw) w').setCell (p := ⟨tw, 8, none⟩) (fun _ => rfl) _
  have r3 : Row (w'.setCell ⟨tw, 8, none⟩ v') tw (twC d v') 44 := r2.set 8 v'
  have T : Turn (fun g => g = tw ∨ vq.ownBlock = some g) w (w'.setCell ⟨tw, 8, none⟩ v') := (tq.mono (fun _ _ e => Or.inr e)).trans tS (fun _ _ e => .inl e)
  have fv : ∀ g, v'.ownBlock = some g → vq.ownBlock = some g ∨ w.heap.size ≤ g := fun g hg' => by
    rcases hg.blk with e | ⟨g', e, h1, _⟩
    · exact .inl (by rw [← e]; exact hg')
    · rw [e] at hg'
      cases hg'
      simp at h1
      exact .inr (by omega)
  refine ⟨v', w', fun ty => hr, r2, ?_, tq, ⟨r3, fun j hj => (h.side j hj).turn T (fun b hb q => ?_), h.apart, ?_, fun y hy => ?_, h.new, fun g hg' => ?_, h.newt, Nat.le_trans h.size T.size⟩, T.mono (fun b _ q => ?_)⟩
  · obtain ⟨a, c, e, _⟩ := ho.form
    exact ⟨a, _, c, e⟩
  · rcases q with q | q
    · subst q; exact h.tw_off hj hb
    · exact h.vq_off hj q hb
  · have := ho.turn tS (fun b hb e => by
      subst e
      obtain ⟨c, ho'⟩ := ho.obj hb
      exact absurd (tag_ne ho' r2) (by decide))
    simpa using this
  · rcases List.mem_append.1 hy with q | q
    · exact h.each y q
    · simp at q; subst q; exact hY
  · rcases fv g hg' with q | q
    · exact h.newq g q
    · exact Nat.le_trans h.size q
  · rcases q with q | q
    · subst q; exact h.newt
    · exact h.newq b q
set_option maxRecDepth 100000 in
set_option maxHeartbeats 8000000 in
theorem signs21_some (h : Tw base w tw d vq Q) (hk : k < 2) (x : Opx) (hx : x.ok) (hb : Bs w x.va x.bs) (hl0 : Laid0 w) (hl1 : Laid1 w) (h2 : 2 ≤ base) (hm : (d k).E.length + (d k).R.length ≤ 1599289640401) (hQl : Q.length ≤ 4398046511104) (hE : 0 < (d k).E.length) : Calls Tryd.prog 21 #[.pointer (some ⟨tw, 0, none⟩), .int .i64 k, .agg (opC x).toArray] w fun e w' =>
    e = .returned (.bool true) ∧ ∃ d' vq' Q', Tw base w' tw d' vq' Q' ∧ Grow d d' ∧ Q'.length ≤ Q.length + 1 ∧ Turn (fun g => base ≤ g) w w' := by
  have hk' : (k : Int) < 2 := by omega
  obtain ⟨w0, hw0⟩ : ∃ w0, w.alloc (.cells (opC x).toArray 33) = w0 := ⟨_, rfl⟩
  have T0 : Turn no w w0 := by rw [← hw0]; exact (Turn.refl no w).alloc _
  have B0 : Row w0 w.heap.size (opC x).toArray 33 := by rw [← hw0]; exact Row.new w _ 33
  have h0 := h.turn_no T0
  obtain ⟨gB, hgB⟩ : ∃ g, w.heap.size = g := ⟨_, rfl⟩
  have s33 := sizeOp hx
  have bsz := h.size
  have S0 := h0.side k hk
  obtain ⟨gS, cS, hvs, lS, mS, cellS⟩ := S0.os.at (by simp [S0.len]; exact hE)
  obtain ⟨gT, cT, hvt, lT, mT, cellT⟩ := S0.ot.at (by simp [S0.lent]; exact hE)
  simp only [List.length_map, S0.len] at hvs lS
  simp only [List.length_map, S0.lent] at hvt lT
  have hEl : (d k).E.length ≤ 9223372036854775807 := by omega
  have har := fun W => around22 W x.pos (d k).E.length hE hEl
  have hal := around_lt x.pos (d k).E.length hE
  generalize around x.pos (d k).E.length = i at *
  obtain ⟨a, ha⟩ : ∃ a, (d k).E[i]? = some a := ⟨(d k).E[i]'hal, List.getElem?_eq_getElem _⟩
  obtain ⟨s, hs⟩ : ∃ s, (d k).ss[i]? = some s := ⟨(d k).ss[i]'(by rw [S0.len]; exact hal), List.getElem?_eq_getElem _⟩
  obtain ⟨t, ht⟩ : ∃ t, (d k).ts[i]? = some t := ⟨(d k).ts[i]'(by rw [S0.lent]; exact hal), List.getElem?_eq_getElem _⟩
  have cs0 : w0.cell? ⟨gS, i, none⟩ = some (.pointer (some ⟨s, 0, none⟩)) := cellS i _ (by simp [hs]; rfl)
  have ct0 : w0.cell? ⟨gT, i, none⟩ = some (.pointer (some ⟨t, 0, none⟩)) := cellT i _ (by simp [ht]; rfl)
  have c4 : w0.cell? ⟨tw, 4 + k, none⟩ = some (d k).vs := (h0.at (i := 0) hk).2.2.1
  have c6 : w0.cell? ⟨tw, 6 + k, none⟩ = some (d k).vt := (h0.at (i := 0) hk).2.2.2
  have offS : ∀ {w' : World}, ¬ Fp (d k).p (d k).br (d k).bt (d k).V gS := fun {_} => by
    obtain ⟨c, ho⟩ := S0.os.obj (g := gS) (by rw [hvs]; rfl)
    exact S0.bk.away ho (by decide) (by decide)
  have offT : ¬ Fp (d k).p (d k).br (d k).bt (d k).V gT := by
    obtain ⟨c, ho⟩ := S0.ot.obj (g := gT) (by rw [hvt]; rfl)
    exact S0.bk.away ho (by decide) (by decide)
  have offtw : ¬ Fp (d k).p (d k).br (d k).bt (d k).V tw := fun e => h0.tw_off hk (.inl e)
  rw [hvs] at c4
  rw [hvt] at c6
  obtain ⟨n, hn⟩ : ∃ n, Shut ((d k).E.length = n) := ⟨_, rfl⟩
  rw [show (d k).E.length = n from hn.out] at c4 c6 har hal hEl lS lT hE
  have hn0 : ¬ (n : Int) = 0 := by omega
  have hal' : (i : Int) < (n : Int) := by omega
  have cm := fun W (t : Turn no w0 W) => message39 W x hx (hb.turn_no (T0.then_no t))
  rw [hgB] at B0
  have HB0 := shutX B0
  have HT0 := shutX T0
  have Hh0 := shutX h0
  have HL := shutX (And.intro (hl0.turn T0 (fun q => q)) (hl1.turn T0 (fun q => q)))
  have xp : w0.cell? ⟨gB, 2, none⟩ = some (.int .i64 x.pos) := (Bo.of hx B0).pos
  have HSi := shutX (And.intro hs (And.intro ht ha))
  clear T0 h0 hb hl0 hl1 S0 hvs hvt cellS cellT hs ht ha mS mT
  generalize (opC x).toArray = C at *
  go_enter Tryd.func21, Tryd.ntmps21
  go_upto_region 1 with fail
  try rw [hw0]
  try rw [hgB]
  clear hw0
  go_wp2_with fail
  refine wp_region_noPanic ?_
  refine wp_region_held_drew (S := fun W => Turn no w0 W) (by kernel_rfl) ((Turn.refl no w0).drew) (fun hHeld => ?_)
  refine' wpAnyH_take (i := 0) (v := .pointer (some ⟨gB, 2, none⟩)) rfl (by kernel_rfl) (by kernel_rfl) (by kernel_rfl) (fun _ _ _ h => h) (Or.inl ⟨by kernel_rfl, fun W hW => ?y1⟩) hHeld ?r1
  · go_simp
  refine' wpAnyH_take (i := 1) (v := .int .i64 x.pos) rfl (by kernel_rfl) (by kernel_rfl) (by kernel_rfl) (fun _ _ _ h => h) (Or.inl ⟨by kernel_rfl, fun W hW => ?y2⟩) hHeld ?r2
  · have c := hW.keep xp (fun q => q)
    go_simp
  refine' wpAnyH_take (i := 2) (v := .pointer (some ⟨tw, 0, none⟩)) rfl (by kernel_rfl) (by kernel_rfl) (by kernel_rfl) (fun _ _ _ h => h) (Or.inl ⟨by kernel_rfl, fun W hW => ?y3⟩) hHeld ?r3
  · go_simp
  refine' wpAnyH_take (i := 3) (v := .int .i64 k) rfl (by kernel_rfl) (by kernel_rfl) (by kernel_rfl) (fun _ _ _ h => h) (Or.inl ⟨by kernel_rfl, fun W hW => ?y4⟩) hHeld ?r4
  · go_simp
  refine' wpAnyH_take (i := 4) (v := .pointer (some ⟨tw, 0, none⟩)) rfl (by kernel_rfl) (by kernel_rfl) (by kernel_rfl) (fun _ _ _ h => h) (Or.inl ⟨by kernel_rfl, fun W hW => ?y5⟩) hHeld ?r5
  · go_simp
  refine' wpAnyH_take (i := 5) (v := .pointer (some ⟨tw, 4, none⟩)) rfl (by kernel_rfl) (by kernel_rfl) (by kernel_rfl) (fun _ _ _ h => h) (Or.inl ⟨by kernel_rfl, fun W hW => ?y6⟩) hHeld ?r6
  · go_simp
  refine' wpAnyH_take (i := 6) (v := .pointer (some ⟨tw, 4 + k, none⟩)) rfl (by kernel_rfl) (by kernel_rfl) (by kernel_rfl) (fun _ _ _ h => h) (Or.inl ⟨by kernel_rfl, fun W hW => ?y7⟩) hHeld ?r7
  · go_simp
  refine' wpAnyH_take (i := 7) (v := .slice (some ⟨gS, 0, none⟩) n cS) rfl (by kernel_rfl) (by kernel_rfl) (by kernel_rfl) (fun _ _ _ h => h) (Or.inl ⟨by kernel_rfl, fun W hW => ?y8⟩) hHeld ?r8
  · have c := hW.keep c4 (fun q => q)
    go_simp
  refine' wpAnyH_take (i := 8) (v := .int .i64 n) rfl (by kernel_rfl) (by kernel_rfl) (by kernel_rfl) (fun _ _ _ h => h) (Or.inl ⟨by kernel_rfl, fun W hW => ?y9⟩) hHeld ?r9
  · go_simp
  refine wpAnyH_ready (rs := [9]) (by kernel_rfl) (by simp) ?_
  refine AllReadyH.cons rfl (fun K hK => ?_) AllReadyH.nil
  go_simp
  refine (har _).mono ?_
  rintro e wa ⟨rfl, ea⟩
  have ea := ea.symm
  subst ea
  refine hK.out _ _ ((Turn.refl no w0).drew) (fun hHeld => ?_)
  clear hK
  refine' wpAnyH_take (i := 10) (v := .int .i64 i) rfl (by kernel_rfl) (by kernel_rfl) (by kernel_rfl) (fun _ _ _ h => h) (Or.inl ⟨by kernel_rfl, fun W hW => ?y10⟩) hHeld ?r10
  · go_simp
  refine wpAnyH_done (by kernel_rfl) ?_ _
  refine NoPanic.normal ?_
  go_simp
  have td : Turn no w0 w0.drew := (Turn.refl no w0).drew
  have cmd := cm _ td
  have Bd := HB0.out.turn td (fun q => q)
  clear cm hHeld har
  go_upto_region 6 with (first | (refine wpList_load_row rfl 33 (.tmp 5) rfl gB rfl 33 C _ _ Bd Tryd.underlying33 rfl s33 ?_) | (go_at_call 39; refine cmd.mono ?_; rintro e w1 ⟨v, ms, rfl, o1, f1, l1, t1⟩; obtain ⟨va, vc, hva⟩ := o1.bs.slice; subst hva) | (go_at_call 40; refine (room40 w1 _ ms o1.bs (by omega)).mono ?_; rintro e w2 ⟨g, c, rfl, o2, f2, t2⟩))
  have t02 : Turn no w0 w2 := (td.then_no t1).then_no t2
  have M2 : Mg w0.heap.size w2 (.slice va ms.length vc) g c ms := ⟨o1.turn_no t2, f1, o2, Nat.le_trans (td.then_no t1).size f2, l1, fun e => by have := o1.lt e; omega⟩
  have hh2 := Hh0.out.turn_no t02
  have S2 := hh2.side k hk
  have d4 := t02.keep c4 (fun q => q)
  have d6 := t02.keep c6 (fun q => q)
  have ds := t02.keep cs0 (fun q => q)
  have dt := t02.keep ct0 (fun q => q)
  have hcap := M2.cap
  have hcapI : (ms.length : Int) ≤ (c : Int) := by omega
  have hl02 : Laid0 w2 := HL.out.1.turn t02 (fun q => q)
  have hl12 : Laid1 w2 := HL.out.2.turn t02 (fun q => q)
  have hsz2 : 2 ≤ w2.heap.size := by have := t02.size; have := HT0.out.size; omega
  have h1F : ¬ Fp (d k).p (d k).br (d k).bt (d k).V 1 := fun e => by have := hh2.new k hk 1 (.inl e); omega
  have hpl : ∀ b, PFp (d k) b → b < w0.heap.size := fun b e => (Hh0.out.side k hk).lt e
  have hgF : ∀ b, w0.heap.size ≤ b → ¬ Fp (d k).p (d k).br (d k).bt (d k).V b := fun b hb e => by have := hpl b (.inl e); omega
  have cS2 := fun W (t : Turn no w2 W) => psign (S2.turn_no t) i s a HSi.out.1 HSi.out.2.2 (.slice (some ⟨g, 0, none⟩) ms.length c) ms (M2.bs.turn_no t) (fun b e => by have e : g = b := (by simpa [Value.ownBlock] using e); subst e; exact hgF g M2.newg) (hl12.turn t (fun q => q)) (Nat.le_trans hsz2 t.size) h1F (by omega)
  have HM := shutX M2
  have HS2 := shutX S2
  have Hh2 := shutX hh2
  have HT2 := shutX t02
  obtain ⟨y0, y1, y2, y3, y4, y5, y6, y7, y8, y9, y10, y11, y12, y13, y14, y15, hyy⟩ := list16 ((sgY a ms).map bv) (by simp [sgY_len])
  have sY : (Tryd.prog.info? 31).map (·.size) = some (#[y0, y1, y2, y3, y4, y5, y6, y7, y8, y9, y10, y11, y12, y13, y14, y15] : Array Value).size := size31z
  have oY : (#[y0, y1, y2, y3, y4, y5, y6, y7, y8, y9, y10, y11, y12, y13, y14, y15] : Array Value).all (·.oneCell') = true := by
    have := one31L (sgY a ms)
    rwa [hyy] at this
  have zY : Z16.size = (#[y0, y1, y2, y3, y4, y5, y6, y7, y8, y9, y10, y11, y12, y13, y14, y15] : Array Value).size := rfl
  have hYa : ((sgY a ms).map bv).toArray = #[y0, y1, y2, y3, y4, y5, y6, y7, y8, y9, y10, y11, y12, y13, y14, y15] := by rw [hyy]
  simp only [hYa] at cS2
  have HyY := shutX hYa
  clear M2 S2 hh2 t02 o1 f1 o2 f2 t1 t2 hyy hYa td Bd cmd B0 c4 c6 cs0 ct0
  refine wp_region_noPanic ?_
  refine wp_region_held_drew (S := fun W => Turn (Fp (d k).p (d k).br (d k).bt (d k).V) w2 W) (by kernel_rfl) ((Turn.refl _ w2).drew) (fun hHeld => ?_)
  refine' wpAnyH_take (i := 0) (v := .pointer (some ⟨tw, 0, none⟩)) rfl (by kernel_rfl) (by kernel_rfl) (by kernel_rfl) (fun _ _ _ h => h) (Or.inl ⟨by kernel_rfl, fun W hW => ?y11⟩) hHeld ?r11
  · go_simp
  refine' wpAnyH_take (i := 1) (v := .int .i64 k) rfl (by kernel_rfl) (by kernel_rfl) (by kernel_rfl) (fun _ _ _ h => h) (Or.inl ⟨by kernel_rfl, fun W hW => ?y12⟩) hHeld ?r12
  · go_simp
  refine' wpAnyH_take (i := 2) (v := .pointer (some ⟨tw, 0, none⟩)) rfl (by kernel_rfl) (by kernel_rfl) (by kernel_rfl) (fun _ _ _ h => h) (Or.inl ⟨by kernel_rfl, fun W hW => ?y13⟩) hHeld ?r13
  · go_simp
  refine' wpAnyH_take (i := 3) (v := .pointer (some ⟨tw, 4, none⟩)) rfl (by kernel_rfl) (by kernel_rfl) (by kernel_rfl) (fun _ _ _ h => h) (Or.inl ⟨by kernel_rfl, fun W hW => ?y14⟩) hHeld ?r14
  · go_simp
  refine' wpAnyH_take (i := 4) (v := .pointer (some ⟨tw, 4 + k, none⟩)) rfl (by kernel_rfl) (by kernel_rfl) (by kernel_rfl) (fun _ _ _ h => h) (Or.inl ⟨by kernel_rfl, fun W hW => ?y15⟩) hHeld ?r15
  · go_simp
  refine' wpAnyH_take (i := 5) (v := .slice (some ⟨gS, 0, none⟩) n cS) rfl (by kernel_rfl) (by kernel_rfl) (by kernel_rfl) (fun _ _ _ h => h) (Or.inl ⟨by kernel_rfl, fun W hW => ?y16⟩) hHeld ?r16
  · have c := hW.keep d4 offtw
    go_simp
  refine' wpAnyH_take (i := 6) (v := .int .i64 i) rfl (by kernel_rfl) (by kernel_rfl) (by kernel_rfl) (fun _ _ _ h => h) (Or.inl ⟨by kernel_rfl, fun W hW => ?y17⟩) hHeld ?r17
  · go_simp
  refine' wpAnyH_take (i := 7) (v := .pointer (some ⟨gS, i, none⟩)) rfl (by kernel_rfl) (by kernel_rfl) (by kernel_rfl) (fun _ _ _ h => h) (Or.inl ⟨by kernel_rfl, fun W hW => ?y18⟩) hHeld ?r18
  · go_simp
  refine' wpAnyH_take (i := 8) (v := .pointer (some ⟨s, 0, none⟩)) rfl (by kernel_rfl) (by kernel_rfl) (by kernel_rfl) (fun _ _ _ h => h) (Or.inl ⟨by kernel_rfl, fun W hW => ?y19⟩) hHeld ?r19
  · have c := hW.keep ds (offS (w' := w))
    go_simp
  refine' wpAnyH_take (i := 9) (v := .slice (some ⟨g, 0, none⟩) (ms.length + 3) c) rfl (by kernel_rfl) (by kernel_rfl) (by kernel_rfl) (fun _ _ _ h => h) (Or.inl ⟨by kernel_rfl, fun W hW => ?y20⟩) hHeld ?r20
  · go_simp
  refine' wpAnyH_take (i := 10) (v := .slice va ms.length vc) rfl (by kernel_rfl) (by kernel_rfl) (by kernel_rfl) (fun _ _ _ h => h) (Or.inl ⟨by kernel_rfl, fun W hW => ?y21⟩) hHeld ?r21
  · go_simp
  refine' wpAnyH_take (i := 11) (v := .int .i64 ms.length) rfl (by kernel_rfl) (by kernel_rfl) (by kernel_rfl) (fun _ _ _ h => h) (Or.inl ⟨by kernel_rfl, fun W hW => ?y22⟩) hHeld ?r22
  · go_simp
  refine' wpAnyH_take (i := 12) (v := .slice (some ⟨g, 0, none⟩) ms.length c) rfl (by kernel_rfl) (by kernel_rfl) (by kernel_rfl) (fun _ _ _ h => h) (Or.inl ⟨by kernel_rfl, fun W hW => ?y23⟩) hHeld ?r23
  · go_simp
  refine wpAnyH_ready (rs := [13, 17]) (by kernel_rfl) (by simp) ?_
  refine AllReadyH.cons rfl (fun K hK => ?_) (AllReadyH.cons rfl (fun K hK => ?_) AllReadyH.nil)
  · go_simp
    refine (cS2 _ ((Turn.refl no w2).drew)).mono ?_
    rintro e w3 ⟨rfl, V', bk3, fV, t3⟩
    have t23 : Turn (Fp (d k).p (d k).br (d k).bt (d k).V) w2 w3 := ((Turn.refl _ w2).drew).trans t3 (fun _ _ q => q)
    refine hK.out _ _ t23 (fun hHeld => ?_)
    clear hK
    refine' wpAnyH_take (i := 14) (v := .tuple #[.agg #[y0, y1, y2, y3, y4, y5, y6, y7, y8, y9, y10, y11, y12, y13, y14, y15], .int .i64 (sgE ms)]) rfl (by kernel_rfl) (by kernel_rfl) (by kernel_rfl) (fun _ _ _ h => h) (Or.inl ⟨by kernel_rfl, fun W hW => ?y24⟩) hHeld ?r24
    · go_simp
    refine' wpAnyH_take (i := 15) (v := .agg #[y0, y1, y2, y3, y4, y5, y6, y7, y8, y9, y10, y11, y12, y13, y14, y15]) rfl (by kernel_rfl) (by kernel_rfl) (by kernel_rfl) (fun _ _ _ h => h) (Or.inl ⟨by kernel_rfl, fun W hW => ?y25⟩) hHeld ?r25
    · go_simp
    refine' wpAnyH_take (i := 16) (v := .int .i64 (sgE ms)) rfl (by kernel_rfl) (by kernel_rfl) (by kernel_rfl) (fun _ _ _ h => h) (Or.inl ⟨by kernel_rfl, fun W hW => ?y26⟩) hHeld ?r26
    · go_simp
    refine wpAnyH_ready (rs := [17]) (by kernel_rfl) (by simp) ?_
    refine AllReadyH.cons rfl (fun K hK => ?_) AllReadyH.nil
    go_simp
    have R4 : Row (w3.alloc (.cells #[.int .u8 0, .int .u8 0, .int .u8 0, .int .u8 0, .int .u8 0, .int .u8 0, .int .u8 0, .int .u8 0, .int .u8 0, .int .u8 0, .int .u8 0, .int .u8 0, .int .u8 0, .int .u8 0, .int .u8 0, .int .u8 0] 31)) w3.heap.size Z16 31 := Row.new w3 _ 31
    have t24 : Turn (Fp (d k).p (d k).br (d k).bt (d k).V) w2 (w3.alloc (.cells #[.int .u8 0, .int .u8 0, .int .u8 0, .int .u8 0, .int .u8 0, .int .u8 0, .int .u8 0, .int .u8 0, .int .u8 0, .int .u8 0, .int .u8 0, .int .u8 0, .int .u8 0, .int .u8 0, .int .u8 0, .int .u8 0] 31)) := t23.alloc _
    refine hK.out _ _ t24 (fun hHeld => ?_)
    clear hK
    refine wpAnyH_ready (rs := [18]) (by kernel_rfl) (by simp) ?_
    refine AllReadyH.cons rfl (fun K hK => ?_) AllReadyH.nil
    rw [if_pos (by kernel_rfl)]
    refine wp_store_row 31 _ _ rfl w3.heap.size #[y0, y1, y2, y3, y4, y5, y6, y7, y8, y9, y10, y11, y12, y13, y14, y15] rfl rfl 31 Z16 R4 sY zY oY ?_
    obtain ⟨gY, hgY⟩ : ∃ g, w3.heap.size = g := ⟨_, rfl⟩
    have gYn : w0.heap.size ≤ gY := by have := HT2.out.size; have := t23.size; omega
    have R5 : Row ((w3.alloc (.cells #[.int .u8 0, .int .u8 0, .int .u8 0, .int .u8 0, .int .u8 0, .int .u8 0, .int .u8 0, .int .u8 0, .int .u8 0, .int .u8 0, .int .u8 0, .int .u8 0, .int .u8 0, .int .u8 0, .int .u8 0, .int .u8 0] 31)).setRow w3.heap.size #[y0, y1, y2, y3, y4, y5, y6, y7, y8, y9, y10, y11, y12, y13, y14, y15]) gY #[y0, y1, y2, y3, y4, y5, y6, y7, y8, y9, y10, y11, y12, y13, y14, y15] 31 := by rw [← hgY]; exact setRow_heap _ _ _ _ _ _ R4
    have t35 : Turn no w3 ((w3.alloc (.cells #[.int .u8 0, .int .u8 0, .int .u8 0, .int .u8 0, .int .u8 0, .int .u8 0, .int .u8 0, .int .u8 0, .int .u8 0, .int .u8 0, .int .u8 0, .int .u8 0, .int .u8 0, .int .u8 0, .int .u8 0, .int .u8 0] 31)).setRow w3.heap.size #[y0, y1, y2, y3, y4, y5, y6, y7, y8, y9, y10, y11, y12, y13, y14, y15]) := ((Turn.refl no w3).alloc _).trans (setRow_turn _ _) (fun b hb q => by have q : b = w3.heap.size := q; omega)
    have bk5 := bk3.turn_no t35
    have T25 : Turn (Fp (d k).p (d k).br (d k).bt (d k).V) w2 ((w3.alloc (.cells #[.int .u8 0, .int .u8 0, .int .u8 0, .int .u8 0, .int .u8 0, .int .u8 0, .int .u8 0, .int .u8 0, .int .u8 0, .int .u8 0, .int .u8 0, .int .u8 0, .int .u8 0, .int .u8 0, .int .u8 0, .int .u8 0] 31)).setRow w3.heap.size #[y0, y1, y2, y3, y4, y5, y6, y7, y8, y9, y10, y11, y12, y13, y14, y15]) := t23.then_no t35
    refine hK.out _ _ T25 (fun hHeld => ?_)
    clear hK
    rw [hgY] at R5 bk5 T25 hHeld ⊢
    generalize (w3.alloc (.cells #[.int .u8 0, .int .u8 0, .int .u8 0, .int .u8 0, .int .u8 0, .int .u8 0, .int .u8 0, .int .u8 0, .int .u8 0, .int .u8 0, .int .u8 0, .int .u8 0, .int .u8 0, .int .u8 0, .int .u8 0, .int .u8 0] 31)).setRow gY #[y0, y1, y2, y3, y4, y5, y6, y7, y8, y9, y10, y11, y12, y13, y14, y15] = w5 at *
    clear R4 t24 t35 t23 t3 bk3
    refine' wpAnyH_take (i := 19) (v := .int .i64 (sgE ms)) rfl (by kernel_rfl) (by kernel_rfl) (by kernel_rfl) (fun _ _ _ h => h) (Or.inl ⟨by kernel_rfl, fun W hW => ?y27⟩) hHeld ?r27
    · go_simp
    refine wpAnyH_done (by kernel_rfl) ?_ _
    refine NoPanic.normal ?_
    go_simp
    clear hHeld
    have K5 := HS2.out.keepR T25
    have rs5 := K5.2.2.2.2 i t a HSi.out.2.1 HSi.out.2.2
    have e6 := T25.keep d6 offtw
    have et := T25.keep dt offT
    have M5 := HM.out.turn T25 hgF
    have hl05 : Laid0 w5 := hl02.turn T25 (fun e => by have := Hh2.out.new k hk 0 (.inl e); omega)
    have hsz5 : 2 ≤ w5.heap.size := Nat.le_trans hsz2 T25.size
    have hql : (d k).q < w0.heap.size := hpl _ (.inr (.inl (.inl rfl)))
    have hq0 : (d k).q ≠ 0 := by have := Hh2.out.new k hk _ (.inr (.inl (.inl rfl))); omega
    have hr0 : (d k).vr.ownBlock ≠ some 0 := fun e => by have := Hh2.out.new k hk 0 (.inr (.inl (.inr (.inr e)))); omega
    have cD := dsign K5.1 t a rs5 (.slice va ms.length vc) ms M5.own.bs (fun b e => ⟨fun q => by have := M5.new b e; omega, fun q => by have := M5.new b e; have := hpl b (.inr (.inl (.inr (.inr q)))); omega⟩) hl05 hsz5 hq0 hr0 (by omega)
    rw [HyY.out] at cD
    have HM5 := shutX M5
    have HT25 := shutX T25
    clear K5 rs5 M5 T25 hl05 hsz5 cS2 d4 d6 ds dt
    go_upto_region 8 with (first | (go_at_call 42; refine cD.mono ?_; rintro e w6 ⟨rfl, vr', rf6, fvr, t6⟩) | (refine wpList_store_anyX rfl rfl 31 (.tmp 12) (.tmp 66) rfl w6.heap.size #[y0, y1, y2, y3, y4, y5, y6, y7, y8, y9, y10, y11, y12, y13, y14, y15] rfl rfl 31 Z16 (Row.new w6 _ 31) sY zY oY ?_; intro w7 R7 T7))
    have t67 : Turn no w6 w7 := ((Turn.refl no w6).alloc _).trans T7 (fun b hb q => by have q : b = w6.heap.size := q; omega)
    have t57 : Turn (fun b => b = (d k).q ∨ (d k).vr.ownBlock = some b) w5 w7 := t6.then_no t67
    obtain ⟨h7, tb7⟩ := Hh2.out.signed hk a ms HT25.out bk5 fV t57 (rf6.turn_no t67) fvr
    have hS7 : ∀ b, w0.heap.size ≤ b → ¬ (b = (d k).q ∨ (d k).vr.ownBlock = some b) := fun b hb e => by
      rcases e with e | e
      · omega
      · have := hpl b (.inr (.inl (.inr (.inr e)))); omega
    have M7 := HM5.out.turn t57 hS7
    have RY7 := Row.turn R5 t57 (hS7 gY gYn)
    obtain ⟨gZ, hgZ⟩ : ∃ g, w6.heap.size = g := ⟨_, rfl⟩
    rw [hgZ] at R7 ⊢
    have gZn : w0.heap.size ≤ gZ := by have := HT2.out.size; have := HT25.out.size; have := t6.size; omega
    have cl := left43 w7 g c ms (by have := M7.len; omega) M7.full _ M7.own.bs
    have csp := fun W (t : Turn no w7 W) => spoil44 W g (ms.length + 3) c (ms ++ marks) (M7.full.turn_no t) (by simp [marks]) (by have := M7.len; omega)
    obtain ⟨cc5, ho5⟩ := M7.full.obj (g := g) rfl
    have hgb : base ≤ g := by have := M7.newg; have := HT0.out.size; omega
    have HT7 := shutX (HT0.out.of_no.trans ((HT2.out.of_no (S := fun b => base ≤ b)).trans tb7 (fun _ _ q => q)) (fun _ _ q => q))
    have Hh7 := shutX h7
    clear M7 h7 tb7 t67 T7 t6 cD rf6 R5 bk5 HM5 fvr t57
    go_upto_region 10 with (first | (go_at_call 43; refine cl.mono ?_; rintro e w8 ⟨rfl, t8⟩) | (go_at_call 44; refine (csp _ t8).mono ?_; rintro e w9 ⟨rfl, t9⟩))
    obtain ⟨h9, tb9⟩ := (Hh7.out.turn_no t8).turn5 (t8.obj ho5 (fun q => q)) hgb t9
    have ngY : gY ≠ g := fun q => by subst q; exact absurd (tag_ne ho5 RY7) (by decide)
    have ngZ : gZ ≠ g := fun q => by subst q; exact absurd (tag_ne ho5 R7) (by decide)
    have RY9 := Row.turn (Row.turn RY7 t8 (fun q => q)) t9 ngY
    have RZ9 := Row.turn (Row.turn R7 t8 (fun q => q)) t9 ngZ
    have HT9 := shutX ((HT7.out.then_no t8).trans tb9 (fun _ _ q => q))
    clear cl csp t8 t9 tb9 Hh7 HT7 RY7 R7
    have e31 : ∀ W, (binOp .eql 31 (.agg #[y0, y1, y2, y3, y4, y5, y6, y7, y8, y9, y10, y11, y12, y13, y14, y15]) (.agg #[y0, y1, y2, y3, y4, y5, y6, y7, y8, y9, y10, y11, y12, y13, y14, y15])).run Tryd.prog W = .ok (.bool true) W := fun W => by
      rw [← HyY.out]
      exact eql31_same W (sgY a ms) (sgY_len a ms)
    have hGr : Grow d (updP d k { d k with V := V', vr := vr', R := sgR (d k).R a ms }) := fun j => by
      unfold updP
      split
      · rename_i e
        subst e
        exact ⟨by simp, sgR_len _ a ms, by have := sgR_len (d j).R a ms; simp only; omega⟩
      · exact ⟨by omega, by omega, by omega⟩
    have HGr := shutX hGr
    clear hGr
    by_cases hsm : ms.length ≤ 1048576
    · have hsE : sgE ms = 0 := if_pos hsm
      rw [hsE]
      obtain ⟨v10, w10, hap, r10, ⟨xa, xn, xc, hxv⟩, tq, hTw, tB⟩ := h9.seals (sgY a ms) (sgY_len a ms) hQl
      rw [HyY.out] at hap
      obtain ⟨qa, qc, hvq, _⟩ := h9.book.form
      obtain ⟨qn, hqn⟩ : ∃ n, Shut (Q.length = n) := ⟨_, rfl⟩
      rw [show Q.length = qn from hqn.out] at hvq
      have c8 : w9.cell? ⟨tw, 8, none⟩ = some vq := h9.c8
      have c8' : (w9.alloc (.cells #[y0, y1, y2, y3, y4, y5, y6, y7, y8, y9, y10, y11, y12, y13, y14, y15] 31)).drew.cell? ⟨tw, 8, none⟩ = some vq := (((Turn.refl no w9).alloc _).drew).keep c8 (fun q => q)
      have a10 : w10.cell? ⟨tw, 8, none⟩ = some vq := r10.cell 8 _ rfl
      have z10 := Row.frozen r10 8
      have hvql : ∀ b, vq.ownBlock = some b → b < w0.heap.size := fun b e => Hh0.out.book.lt e
      have htwl : tw < w0.heap.size := Hh0.out.row.lt
      have offq : ∀ b, w0.heap.size ≤ b → ¬ (b = tw ∨ vq.ownBlock = some b) := fun b hb e => by
        rcases e with e | e
        · omega
        · have := hvql b e; omega
      have t10 : Turn (fun b => b = tw ∨ vq.ownBlock = some b) w9 w10 := tq.mono (fun _ _ e => .inr e)
      have t11 : Turn (fun b => b = tw ∨ vq.ownBlock = some b) w9 (w10.setCell ⟨tw, 8, none⟩ v10) := t10.setCell (p := ⟨tw, 8, none⟩) (fun _ => .inl rfl) _
      have RY11 := Row.turn RY9 t11 (offq gY gYn)
      have RZ11 := Row.turn RZ9 t11 (offq gZ gZn)
      have rZ : ∀ W, Turn (fun b => b = tw ∨ vq.ownBlock = some b) w9 W → W.rangeAt gZ 0 [y0, y1, y2, y3, y4, y5, y6, y7, y8, y9, y10, y11, y12, y13, y14, y15] := fun W t j u hu => (Row.turn RZ9 t (offq gZ gZn)).cell (0 + j) _ (by rw [Nat.zero_add]; simpa using hu)
      have sYl : (Tryd.prog.info? 31).map (·.size) = some ([y0, y1, y2, y3, y4, y5, y6, y7, y8, y9, y10, y11, y12, y13, y14, y15] : List Value).length := size31z
      have HTw := shutX hTw
      have HtB := shutX tB
      have Ht10 := shutX t10
      have Ht11 := shutX t11
      clear hTw tB t10 t11 tq r10 RY9 RZ9 h9 hsE
      subst hxv
      subst hvq
      go_wp2_with (go_at_call 38; refine (num38 _ _).mono ?_; rintro e wx ⟨rfl, ex⟩; have ex := ex.symm; subst ex)
      refine wp_region_noPanic ?_
      refine wp_region_held_drew (S := fun W => Turn (fun b => b = tw ∨ (Value.slice qa qn qc).ownBlock = some b) w9 W) (by kernel_rfl) ((Turn.refl _ w9).drew) (fun hHeld => ?_)
      refine' wpAnyH_take (i := 0) (v := .pointer (some ⟨tw, 0, none⟩)) rfl (by kernel_rfl) (by kernel_rfl) (by kernel_rfl) (fun _ _ _ h => h) (Or.inl ⟨by kernel_rfl, fun W hW => ?y28⟩) hHeld ?r28
      · go_simp
      refine' wpAnyH_take (i := 1) (v := .pointer (some ⟨tw, 0, none⟩)) rfl (by kernel_rfl) (by kernel_rfl) (by kernel_rfl) (fun _ _ _ h => h) (Or.inl ⟨by kernel_rfl, fun W hW => ?y29⟩) hHeld ?r29
      · go_simp
      refine' wpAnyH_take (i := 2) (v := .pointer (some ⟨tw, 0, none⟩)) rfl (by kernel_rfl) (by kernel_rfl) (by kernel_rfl) (fun _ _ _ h => h) (Or.inl ⟨by kernel_rfl, fun W hW => ?y30⟩) hHeld ?r30
      · go_simp
      refine' wpAnyH_take (i := 3) (v := .pointer (some ⟨tw, 8, none⟩)) rfl (by kernel_rfl) (by kernel_rfl) (by kernel_rfl) (fun _ _ _ h => h) (Or.inl ⟨by kernel_rfl, fun W hW => ?y31⟩) hHeld ?r31
      · go_simp
      refine' wpAnyH_take (i := 5) (v := .agg #[y0, y1, y2, y3, y4, y5, y6, y7, y8, y9, y10, y11, y12, y13, y14, y15]) rfl (by kernel_rfl) (by kernel_rfl) (by kernel_rfl) (fun _ _ _ h => h) (yieldsIf_load_mid (by kernel_rfl) 31 (.tmp 12) rfl gZ 0 (by kernel_rfl) [y0, y1, y2, y3, y4, y5, y6, y7, y8, y9, y10, y11, y12, y13, y14, y15] _ (fun W h => rZ W h) Tryd.underlying31 rfl sYl) hHeld ?s0
      refine wpAnyH_ready (rs := [4, 6]) (by kernel_rfl) (by simp) ?_
      refine AllReadyH.cons rfl (fun K hK => ?_) (AllReadyH.cons rfl (fun K hK => ?_) AllReadyH.nil)
      · have cqd : w9.drew.cell? ⟨tw, 8, none⟩ = some (.slice qa qn qc) := c8
        go_simp
        refine hK.out _ _ hHeld (fun hHeld => ?_)
        clear hK
        refine wpAnyH_ready (rs := [6]) (by kernel_rfl) (by simp) ?_
        refine AllReadyH.cons rfl (fun K hK => ?_) AllReadyH.nil
        go_simp
        refine hK.out _ _ ((Turn.refl _ w9).alloc _).drew (fun hHeld => ?_)
        clear hK
        refine wpAnyH_ready (rs := [7]) (by kernel_rfl) (by simp) ?_
        refine AllReadyH.cons rfl (fun K hK => ?_) AllReadyH.nil
        rw [if_pos (by kernel_rfl)]
        refine wp_append_run _ _ rfl _ _ rfl rfl (hap _) ?_
        refine hK.out _ _ Ht10.out (fun hHeld => ?_)
        clear hK
        refine' wpAnyH_take (i := 8) (v := .pointer (some ⟨tw, 0, none⟩)) rfl (by kernel_rfl) (by kernel_rfl) (by kernel_rfl) (fun _ _ _ h => h) (Or.inl ⟨by kernel_rfl, fun W hW => ?y32⟩) hHeld ?r32
        · go_simp
        refine' wpAnyH_take (i := 9) (v := .pointer (some ⟨tw, 8, none⟩)) rfl (by kernel_rfl) (by kernel_rfl) (by kernel_rfl) (fun _ _ _ h => h) (Or.inl ⟨by kernel_rfl, fun W hW => ?y33⟩) hHeld ?r33
        · go_simp
        refine wpAnyH_ready (rs := [10]) (by kernel_rfl) (by simp) ?_
        refine AllReadyH.cons rfl (fun K hK => ?_) AllReadyH.nil
        go_simp
        refine hK.out _ _ Ht11.out (fun hHeld => ?_)
        clear hK
        refine wpAnyH_done (by kernel_rfl) ?_ _
        refine NoPanic.normal ?_
        go_simp
        generalize w10.setCell ⟨tw, 8, none⟩ (.slice xa xn xc) = w11 at *
        go_wp2_with (first | (go_at_call 38; refine (num38 _ _).mono ?_; rintro e wx ⟨rfl, ex⟩; have ex := ex.symm; subst ex) | (guard_target =~ wpList _ _ _ ({ dst := some 88, op := _, type := _, pos := _, after := _, guard := _ } :: _) _ _; refine wpList_load_rowGX (by rfl) 31 (.tmp 10) rfl gY rfl #[y0, y1, y2, y3, y4, y5, y6, y7, y8, y9, y10, y11, y12, y13, y14, y15] 31 _ RY11 Tryd.underlying31 rfl sY ?_) | (guard_target =~ wpList _ _ _ ({ dst := some 89, op := _, type := _, pos := _, after := _, guard := _ } :: _) _ _; refine wpList_load_rowGX (by rfl) 31 (.tmp 12) rfl gZ rfl #[y0, y1, y2, y3, y4, y5, y6, y7, y8, y9, y10, y11, y12, y13, y14, y15] 31 _ RZ11 Tryd.underlying31 rfl sY ?_))
        go_ret
        exact ⟨rfl, _, _, _, HTw.out, HGr.out, by simp, HT9.out.trans HtB.out (fun _ _ q => q)⟩
      · go_simp
        refine hK.out _ _ ((Turn.refl _ w9).alloc _).drew (fun hHeld => ?_)
        clear hK
        refine wpAnyH_ready (rs := [4]) (by kernel_rfl) (by simp) ?_
        refine AllReadyH.cons rfl (fun K hK => ?_) AllReadyH.nil
        go_simp
        refine hK.out _ _ hHeld (fun hHeld => ?_)
        clear hK
        refine wpAnyH_ready (rs := [7]) (by kernel_rfl) (by simp) ?_
        refine AllReadyH.cons rfl (fun K hK => ?_) AllReadyH.nil
        rw [if_pos (by kernel_rfl)]
        refine wp_append_run _ _ rfl _ _ rfl rfl (hap _) ?_
        refine hK.out _ _ Ht10.out (fun hHeld => ?_)
        clear hK
        refine' wpAnyH_take (i := 8) (v := .pointer (some ⟨tw, 0, none⟩)) rfl (by kernel_rfl) (by kernel_rfl) (by kernel_rfl) (fun _ _ _ h => h) (Or.inl ⟨by kernel_rfl, fun W hW => ?y34⟩) hHeld ?r34
        · go_simp
        refine' wpAnyH_take (i := 9) (v := .pointer (some ⟨tw, 8, none⟩)) rfl (by kernel_rfl) (by kernel_rfl) (by kernel_rfl) (fun _ _ _ h => h) (Or.inl ⟨by kernel_rfl, fun W hW => ?y35⟩) hHeld ?r35
        · go_simp
        refine wpAnyH_ready (rs := [10]) (by kernel_rfl) (by simp) ?_
        refine AllReadyH.cons rfl (fun K hK => ?_) AllReadyH.nil
        go_simp
        refine hK.out _ _ Ht11.out (fun hHeld => ?_)
        clear hK
        refine wpAnyH_done (by kernel_rfl) ?_ _
        refine NoPanic.normal ?_
        go_simp
        generalize w10.setCell ⟨tw, 8, none⟩ (.slice xa xn xc) = w11 at *
        go_wp2_with (first | (go_at_call 38; refine (num38 _ _).mono ?_; rintro e wx ⟨rfl, ex⟩; have ex := ex.symm; subst ex) | (guard_target =~ wpList _ _ _ ({ dst := some 88, op := _, type := _, pos := _, after := _, guard := _ } :: _) _ _; refine wpList_load_rowGX (by rfl) 31 (.tmp 10) rfl gY rfl #[y0, y1, y2, y3, y4, y5, y6, y7, y8, y9, y10, y11, y12, y13, y14, y15] 31 _ RY11 Tryd.underlying31 rfl sY ?_) | (guard_target =~ wpList _ _ _ ({ dst := some 89, op := _, type := _, pos := _, after := _, guard := _ } :: _) _ _; refine wpList_load_rowGX (by rfl) 31 (.tmp 12) rfl gZ rfl #[y0, y1, y2, y3, y4, y5, y6, y7, y8, y9, y10, y11, y12, y13, y14, y15] 31 _ RZ11 Tryd.underlying31 rfl sY ?_))
        go_ret
        exact ⟨rfl, _, _, _, HTw.out, HGr.out, by simp, HT9.out.trans HtB.out (fun _ _ q => q)⟩
    · have hsE : sgE ms = 4 := if_neg hsm
      rw [hsE]
      have Hh9 := shutX h9
      clear h9 hsE
      go_wp2_with (first | (go_at_call 38; refine (num38 _ _).mono ?_; rintro e wx ⟨rfl, ex⟩; have ex := ex.symm; subst ex) | (guard_target =~ wpList _ _ _ ({ dst := some 88, op := _, type := _, pos := _, after := _, guard := _ } :: _) _ _; refine wpList_load_rowGX (by rfl) 31 (.tmp 10) rfl gY rfl #[y0, y1, y2, y3, y4, y5, y6, y7, y8, y9, y10, y11, y12, y13, y14, y15] 31 _ RY9 Tryd.underlying31 rfl sY ?_) | (guard_target =~ wpList _ _ _ ({ dst := some 89, op := _, type := _, pos := _, after := _, guard := _ } :: _) _ _; refine wpList_load_rowGX (by rfl) 31 (.tmp 12) rfl gZ rfl #[y0, y1, y2, y3, y4, y5, y6, y7, y8, y9, y10, y11, y12, y13, y14, y15] 31 _ RZ9 Tryd.underlying31 rfl sY ?_))
      go_ret
      exact ⟨rfl, _, vq, Q, Hh9.out, HGr.out, by omega, HT9.out⟩
  · go_simp
    obtain ⟨w3, hw3⟩ : ∃ w3, (w2.alloc (.cells #[.int .u8 0, .int .u8 0, .int .u8 0, .int .u8 0, .int .u8 0, .int .u8 0, .int .u8 0, .int .u8 0, .int .u8 0, .int .u8 0, .int .u8 0, .int .u8 0, .int .u8 0, .int .u8 0, .int .u8 0, .int .u8 0] 31)).drew = w3 := ⟨_, rfl⟩
    have t23 : Turn no w2 w3 := by rw [← hw3]; exact ((Turn.refl no w2).alloc _).drew
    have R3 : Row w3 w2.heap.size Z16 31 := by rw [← hw3]; exact Row.new w2 _ 31
    rw [hw3]
    clear hw3
    refine hK.out _ _ t23.of_no (fun hHeld => ?_)
    clear hK
    refine wpAnyH_ready (rs := [13]) (by kernel_rfl) (by simp) ?_
    refine AllReadyH.cons rfl (fun K hK => ?_) AllReadyH.nil
    go_simp
    refine (cS2 _ t23).mono ?_
    rintro e w4 ⟨rfl, V', bk4, fV, t4⟩
    have t24 : Turn (Fp (d k).p (d k).br (d k).bt (d k).V) w2 w4 := t23.of_no.trans t4 (fun _ _ q => q)
    have R4 := Row.turn R3 t4 (hgF _ (by have := HT2.out.size; omega))
    refine hK.out _ _ t24 (fun hHeld => ?_)
    clear hK
    refine' wpAnyH_take (i := 14) (v := .tuple #[.agg #[y0, y1, y2, y3, y4, y5, y6, y7, y8, y9, y10, y11, y12, y13, y14, y15], .int .i64 (sgE ms)]) rfl (by kernel_rfl) (by kernel_rfl) (by kernel_rfl) (fun _ _ _ h => h) (Or.inl ⟨by kernel_rfl, fun W hW => ?y36⟩) hHeld ?r36
    · go_simp
    refine' wpAnyH_take (i := 15) (v := .agg #[y0, y1, y2, y3, y4, y5, y6, y7, y8, y9, y10, y11, y12, y13, y14, y15]) rfl (by kernel_rfl) (by kernel_rfl) (by kernel_rfl) (fun _ _ _ h => h) (Or.inl ⟨by kernel_rfl, fun W hW => ?y37⟩) hHeld ?r37
    · go_simp
    refine' wpAnyH_take (i := 16) (v := .int .i64 (sgE ms)) rfl (by kernel_rfl) (by kernel_rfl) (by kernel_rfl) (fun _ _ _ h => h) (Or.inl ⟨by kernel_rfl, fun W hW => ?y38⟩) hHeld ?r38
    · go_simp
    refine wpAnyH_ready (rs := [18]) (by kernel_rfl) (by simp) ?_
    refine AllReadyH.cons rfl (fun K hK => ?_) AllReadyH.nil
    rw [if_pos (by kernel_rfl)]
    refine wp_store_row 31 _ _ rfl w2.heap.size #[y0, y1, y2, y3, y4, y5, y6, y7, y8, y9, y10, y11, y12, y13, y14, y15] rfl rfl 31 Z16 R4 sY zY oY ?_
    obtain ⟨gY, hgY⟩ : ∃ g, w2.heap.size = g := ⟨_, rfl⟩
    have gYn : w0.heap.size ≤ gY := by have := HT2.out.size; omega
    have R5 : Row (w4.setRow w2.heap.size #[y0, y1, y2, y3, y4, y5, y6, y7, y8, y9, y10, y11, y12, y13, y14, y15]) gY #[y0, y1, y2, y3, y4, y5, y6, y7, y8, y9, y10, y11, y12, y13, y14, y15] 31 := by rw [← hgY]; exact setRow_heap _ _ _ _ _ _ R4
    have t45 : Turn (fun b => b = w2.heap.size) w4 (w4.setRow w2.heap.size #[y0, y1, y2, y3, y4, y5, y6, y7, y8, y9, y10, y11, y12, y13, y14, y15]) := setRow_turn _ _
    have bk5 := bk4.turn t45 (fun b hb q => by have q : b = w2.heap.size := q; subst q; exact bk4.away R4 (by decide) (by decide) hb)
    have T25 : Turn (Fp (d k).p (d k).br (d k).bt (d k).V) w2 (w4.setRow w2.heap.size #[y0, y1, y2, y3, y4, y5, y6, y7, y8, y9, y10, y11, y12, y13, y14, y15]) := t24.trans t45 (fun b hb q => by have q : b = w2.heap.size := q; omega)
    have fV : ∀ b g, (V' b).ownBlock = some g → ((d k).V b).ownBlock = some g ∨ w2.heap.size ≤ g := fun b g hg => by
      rcases fV b g hg with e | e
      · exact .inl e
      · exact .inr (Nat.le_trans t23.size e)
    refine hK.out _ _ T25 (fun hHeld => ?_)
    clear hK
    rw [hgY] at R5 bk5 T25 hHeld ⊢
    generalize w4.setRow gY #[y0, y1, y2, y3, y4, y5, y6, y7, y8, y9, y10, y11, y12, y13, y14, y15] = w5 at *
    clear R4 R3 t24 t45 t23 t4 bk4
    refine' wpAnyH_take (i := 19) (v := .int .i64 (sgE ms)) rfl (by kernel_rfl) (by kernel_rfl) (by kernel_rfl) (fun _ _ _ h => h) (Or.inl ⟨by kernel_rfl, fun W hW => ?y39⟩) hHeld ?r39
    · go_simp
    refine wpAnyH_done (by kernel_rfl) ?_ _
    refine NoPanic.normal ?_
    go_simp
    clear hHeld
    have K5 := HS2.out.keepR T25
    have rs5 := K5.2.2.2.2 i t a HSi.out.2.1 HSi.out.2.2
    have e6 := T25.keep d6 offtw
    have et := T25.keep dt offT
    have M5 := HM.out.turn T25 hgF
    have hl05 : Laid0 w5 := hl02.turn T25 (fun e => by have := Hh2.out.new k hk 0 (.inl e); omega)
    have hsz5 : 2 ≤ w5.heap.size := Nat.le_trans hsz2 T25.size
    have hql : (d k).q < w0.heap.size := hpl _ (.inr (.inl (.inl rfl)))
    have hq0 : (d k).q ≠ 0 := by have := Hh2.out.new k hk _ (.inr (.inl (.inl rfl))); omega
    have hr0 : (d k).vr.ownBlock ≠ some 0 := fun e => by have := Hh2.out.new k hk 0 (.inr (.inl (.inr (.inr e)))); omega
    have cD := dsign K5.1 t a rs5 (.slice va ms.length vc) ms M5.own.bs (fun b e => ⟨fun q => by have := M5.new b e; omega, fun q => by have := M5.new b e; have := hpl b (.inr (.inl (.inr (.inr q)))); omega⟩) hl05 hsz5 hq0 hr0 (by omega)
    rw [HyY.out] at cD
    have HM5 := shutX M5
    have HT25 := shutX T25
    clear K5 rs5 M5 T25 hl05 hsz5 cS2 d4 d6 ds dt
    go_upto_region 8 with (first | (go_at_call 42; refine cD.mono ?_; rintro e w6 ⟨rfl, vr', rf6, fvr, t6⟩) | (refine wpList_store_anyX rfl rfl 31 (.tmp 12) (.tmp 66) rfl w6.heap.size #[y0, y1, y2, y3, y4, y5, y6, y7, y8, y9, y10, y11, y12, y13, y14, y15] rfl rfl 31 Z16 (Row.new w6 _ 31) sY zY oY ?_; intro w7 R7 T7))
    have t67 : Turn no w6 w7 := ((Turn.refl no w6).alloc _).trans T7 (fun b hb q => by have q : b = w6.heap.size := q; omega)
    have t57 : Turn (fun b => b = (d k).q ∨ (d k).vr.ownBlock = some b) w5 w7 := t6.then_no t67
    obtain ⟨h7, tb7⟩ := Hh2.out.signed hk a ms HT25.out bk5 fV t57 (rf6.turn_no t67) fvr
    have hS7 : ∀ b, w0.heap.size ≤ b → ¬ (b = (d k).q ∨ (d k).vr.ownBlock = some b) := fun b hb e => by
      rcases e with e | e
      · omega
      · have := hpl b (.inr (.inl (.inr (.inr e)))); omega
    have M7 := HM5.out.turn t57 hS7
    have RY7 := Row.turn R5 t57 (hS7 gY gYn)
    obtain ⟨gZ, hgZ⟩ : ∃ g, w6.heap.size = g := ⟨_, rfl⟩
    rw [hgZ] at R7 ⊢
    have gZn : w0.heap.size ≤ gZ := by have := HT2.out.size; have := HT25.out.size; have := t6.size; omega
    have cl := left43 w7 g c ms (by have := M7.len; omega) M7.full _ M7.own.bs
    have csp := fun W (t : Turn no w7 W) => spoil44 W g (ms.length + 3) c (ms ++ marks) (M7.full.turn_no t) (by simp [marks]) (by have := M7.len; omega)
    obtain ⟨cc5, ho5⟩ := M7.full.obj (g := g) rfl
    have hgb : base ≤ g := by have := M7.newg; have := HT0.out.size; omega
    have HT7 := shutX (HT0.out.of_no.trans ((HT2.out.of_no (S := fun b => base ≤ b)).trans tb7 (fun _ _ q => q)) (fun _ _ q => q))
    have Hh7 := shutX h7
    clear M7 h7 tb7 t67 T7 t6 cD rf6 R5 bk5 HM5 fvr t57
    go_upto_region 10 with (first | (go_at_call 43; refine cl.mono ?_; rintro e w8 ⟨rfl, t8⟩) | (go_at_call 44; refine (csp _ t8).mono ?_; rintro e w9 ⟨rfl, t9⟩))
    obtain ⟨h9, tb9⟩ := (Hh7.out.turn_no t8).turn5 (t8.obj ho5 (fun q => q)) hgb t9
    have ngY : gY ≠ g := fun q => by subst q; exact absurd (tag_ne ho5 RY7) (by decide)
    have ngZ : gZ ≠ g := fun q => by subst q; exact absurd (tag_ne ho5 R7) (by decide)
    have RY9 := Row.turn (Row.turn RY7 t8 (fun q => q)) t9 ngY
    have RZ9 := Row.turn (Row.turn R7 t8 (fun q => q)) t9 ngZ
    have HT9 := shutX ((HT7.out.then_no t8).trans tb9 (fun _ _ q => q))
    clear cl csp t8 t9 tb9 Hh7 HT7 RY7 R7
    have e31 : ∀ W, (binOp .eql 31 (.agg #[y0, y1, y2, y3, y4, y5, y6, y7, y8, y9, y10, y11, y12, y13, y14, y15]) (.agg #[y0, y1, y2, y3, y4, y5, y6, y7, y8, y9, y10, y11, y12, y13, y14, y15])).run Tryd.prog W = .ok (.bool true) W := fun W => by
      rw [← HyY.out]
      exact eql31_same W (sgY a ms) (sgY_len a ms)
    have hGr : Grow d (updP d k { d k with V := V', vr := vr', R := sgR (d k).R a ms }) := fun j => by
      unfold updP
      split
      · rename_i e
        subst e
        exact ⟨by simp, sgR_len _ a ms, by have := sgR_len (d j).R a ms; simp only; omega⟩
      · exact ⟨by omega, by omega, by omega⟩
    have HGr := shutX hGr
    clear hGr
    by_cases hsm : ms.length ≤ 1048576
    · have hsE : sgE ms = 0 := if_pos hsm
      rw [hsE]
      obtain ⟨v10, w10, hap, r10, ⟨xa, xn, xc, hxv⟩, tq, hTw, tB⟩ := h9.seals (sgY a ms) (sgY_len a ms) hQl
      rw [HyY.out] at hap
      obtain ⟨qa, qc, hvq, _⟩ := h9.book.form
      obtain ⟨qn, hqn⟩ : ∃ n, Shut (Q.length = n) := ⟨_, rfl⟩
      rw [show Q.length = qn from hqn.out] at hvq
      have c8 : w9.cell? ⟨tw, 8, none⟩ = some vq := h9.c8
      have c8' : (w9.alloc (.cells #[y0, y1, y2, y3, y4, y5, y6, y7, y8, y9, y10, y11, y12, y13, y14, y15] 31)).drew.cell? ⟨tw, 8, none⟩ = some vq := (((Turn.refl no w9).alloc _).drew).keep c8 (fun q => q)
      have a10 : w10.cell? ⟨tw, 8, none⟩ = some vq := r10.cell 8 _ rfl
      have z10 := Row.frozen r10 8
      have hvql : ∀ b, vq.ownBlock = some b → b < w0.heap.size := fun b e => Hh0.out.book.lt e
      have htwl : tw < w0.heap.size := Hh0.out.row.lt
      have offq : ∀ b, w0.heap.size ≤ b → ¬ (b = tw ∨ vq.ownBlock = some b) := fun b hb e => by
        rcases e with e | e
        · omega
        · have := hvql b e; omega
      have t10 : Turn (fun b => b = tw ∨ vq.ownBlock = some b) w9 w10 := tq.mono (fun _ _ e => .inr e)
      have t11 : Turn (fun b => b = tw ∨ vq.ownBlock = some b) w9 (w10.setCell ⟨tw, 8, none⟩ v10) := t10.setCell (p := ⟨tw, 8, none⟩) (fun _ => .inl rfl) _
      have RY11 := Row.turn RY9 t11 (offq gY gYn)
      have RZ11 := Row.turn RZ9 t11 (offq gZ gZn)
      have rZ : ∀ W, Turn (fun b => b = tw ∨ vq.ownBlock = some b) w9 W → W.rangeAt gZ 0 [y0, y1, y2, y3, y4, y5, y6, y7, y8, y9, y10, y11, y12, y13, y14, y15] := fun W t j u hu => (Row.turn RZ9 t (offq gZ gZn)).cell (0 + j) _ (by rw [Nat.zero_add]; simpa using hu)
      have sYl : (Tryd.prog.info? 31).map (·.size) = some ([y0, y1, y2, y3, y4, y5, y6, y7, y8, y9, y10, y11, y12, y13, y14, y15] : List Value).length := size31z
      have HTw := shutX hTw
      have HtB := shutX tB
      have Ht10 := shutX t10
      have Ht11 := shutX t11
      clear hTw tB t10 t11 tq r10 RY9 RZ9 h9 hsE
      subst hxv
      subst hvq
      go_wp2_with (go_at_call 38; refine (num38 _ _).mono ?_; rintro e wx ⟨rfl, ex⟩; have ex := ex.symm; subst ex)
      refine wp_region_noPanic ?_
      refine wp_region_held_drew (S := fun W => Turn (fun b => b = tw ∨ (Value.slice qa qn qc).ownBlock = some b) w9 W) (by kernel_rfl) ((Turn.refl _ w9).drew) (fun hHeld => ?_)
      refine' wpAnyH_take (i := 0) (v := .pointer (some ⟨tw, 0, none⟩)) rfl (by kernel_rfl) (by kernel_rfl) (by kernel_rfl) (fun _ _ _ h => h) (Or.inl ⟨by kernel_rfl, fun W hW => ?y40⟩) hHeld ?r40
      · go_simp
      refine' wpAnyH_take (i := 1) (v := .pointer (some ⟨tw, 0, none⟩)) rfl (by kernel_rfl) (by kernel_rfl) (by kernel_rfl) (fun _ _ _ h => h) (Or.inl ⟨by kernel_rfl, fun W hW => ?y41⟩) hHeld ?r41
      · go_simp
      refine' wpAnyH_take (i := 2) (v := .pointer (some ⟨tw, 0, none⟩)) rfl (by kernel_rfl) (by kernel_rfl) (by kernel_rfl) (fun _ _ _ h => h) (Or.inl ⟨by kernel_rfl, fun W hW => ?y42⟩) hHeld ?r42
      · go_simp
      refine' wpAnyH_take (i := 3) (v := .pointer (some ⟨tw, 8, none⟩)) rfl (by kernel_rfl) (by kernel_rfl) (by kernel_rfl) (fun _ _ _ h => h) (Or.inl ⟨by kernel_rfl, fun W hW => ?y43⟩) hHeld ?r43
      · go_simp
      refine' wpAnyH_take (i := 5) (v := .agg #[y0, y1, y2, y3, y4, y5, y6, y7, y8, y9, y10, y11, y12, y13, y14, y15]) rfl (by kernel_rfl) (by kernel_rfl) (by kernel_rfl) (fun _ _ _ h => h) (yieldsIf_load_mid (by kernel_rfl) 31 (.tmp 12) rfl gZ 0 (by kernel_rfl) [y0, y1, y2, y3, y4, y5, y6, y7, y8, y9, y10, y11, y12, y13, y14, y15] _ (fun W h => rZ W h) Tryd.underlying31 rfl sYl) hHeld ?s1
      refine wpAnyH_ready (rs := [4, 6]) (by kernel_rfl) (by simp) ?_
      refine AllReadyH.cons rfl (fun K hK => ?_) (AllReadyH.cons rfl (fun K hK => ?_) AllReadyH.nil)
      · have cqd : w9.drew.cell? ⟨tw, 8, none⟩ = some (.slice qa qn qc) := c8
        go_simp
        refine hK.out _ _ hHeld (fun hHeld => ?_)
        clear hK
        refine wpAnyH_ready (rs := [6]) (by kernel_rfl) (by simp) ?_
        refine AllReadyH.cons rfl (fun K hK => ?_) AllReadyH.nil
        go_simp
        refine hK.out _ _ ((Turn.refl _ w9).alloc _).drew (fun hHeld => ?_)
        clear hK
        refine wpAnyH_ready (rs := [7]) (by kernel_rfl) (by simp) ?_
        refine AllReadyH.cons rfl (fun K hK => ?_) AllReadyH.nil
        rw [if_pos (by kernel_rfl)]
        refine wp_append_run _ _ rfl _ _ rfl rfl (hap _) ?_
        refine hK.out _ _ Ht10.out (fun hHeld => ?_)
        clear hK
        refine' wpAnyH_take (i := 8) (v := .pointer (some ⟨tw, 0, none⟩)) rfl (by kernel_rfl) (by kernel_rfl) (by kernel_rfl) (fun _ _ _ h => h) (Or.inl ⟨by kernel_rfl, fun W hW => ?y44⟩) hHeld ?r44
        · go_simp
        refine' wpAnyH_take (i := 9) (v := .pointer (some ⟨tw, 8, none⟩)) rfl (by kernel_rfl) (by kernel_rfl) (by kernel_rfl) (fun _ _ _ h => h) (Or.inl ⟨by kernel_rfl, fun W hW => ?y45⟩) hHeld ?r45
        · go_simp
        refine wpAnyH_ready (rs := [10]) (by kernel_rfl) (by simp) ?_
        refine AllReadyH.cons rfl (fun K hK => ?_) AllReadyH.nil
        go_simp
        refine hK.out _ _ Ht11.out (fun hHeld => ?_)
        clear hK
        refine wpAnyH_done (by kernel_rfl) ?_ _
        refine NoPanic.normal ?_
        go_simp
        generalize w10.setCell ⟨tw, 8, none⟩ (.slice xa xn xc) = w11 at *
        go_wp2_with (first | (go_at_call 38; refine (num38 _ _).mono ?_; rintro e wx ⟨rfl, ex⟩; have ex := ex.symm; subst ex) | (guard_target =~ wpList _ _ _ ({ dst := some 88, op := _, type := _, pos := _, after := _, guard := _ } :: _) _ _; refine wpList_load_rowGX (by rfl) 31 (.tmp 10) rfl gY rfl #[y0, y1, y2, y3, y4, y5, y6, y7, y8, y9, y10, y11, y12, y13, y14, y15] 31 _ RY11 Tryd.underlying31 rfl sY ?_) | (guard_target =~ wpList _ _ _ ({ dst := some 89, op := _, type := _, pos := _, after := _, guard := _ } :: _) _ _; refine wpList_load_rowGX (by rfl) 31 (.tmp 12) rfl gZ rfl #[y0, y1, y2, y3, y4, y5, y6, y7, y8, y9, y10, y11, y12, y13, y14, y15] 31 _ RZ11 Tryd.underlying31 rfl sY ?_))
        go_ret
        exact ⟨rfl, _, _, _, HTw.out, HGr.out, by simp, HT9.out.trans HtB.out (fun _ _ q => q)⟩
      · go_simp
        refine hK.out _ _ ((Turn.refl _ w9).alloc _).drew (fun hHeld => ?_)
        clear hK
        refine wpAnyH_ready (rs := [4]) (by kernel_rfl) (by simp) ?_
        refine AllReadyH.cons rfl (fun K hK => ?_) AllReadyH.nil
        go_simp
        refine hK.out _ _ hHeld (fun hHeld => ?_)
        clear hK
        refine wpAnyH_ready (rs := [7]) (by kernel_rfl) (by simp) ?_
        refine AllReadyH.cons rfl (fun K hK => ?_) AllReadyH.nil
        rw [if_pos (by kernel_rfl)]
        refine wp_append_run _ _ rfl _ _ rfl rfl (hap _) ?_
        refine hK.out _ _ Ht10.out (fun hHeld => ?_)
        clear hK
        refine' wpAnyH_take (i := 8) (v := .pointer (some ⟨tw, 0, none⟩)) rfl (by kernel_rfl) (by kernel_rfl) (by kernel_rfl) (fun _ _ _ h => h) (Or.inl ⟨by kernel_rfl, fun W hW => ?y46⟩) hHeld ?r46
        · go_simp
        refine' wpAnyH_take (i := 9) (v := .pointer (some ⟨tw, 8, none⟩)) rfl (by kernel_rfl) (by kernel_rfl) (by kernel_rfl) (fun _ _ _ h => h) (Or.inl ⟨by kernel_rfl, fun W hW => ?y47⟩) hHeld ?r47
        · go_simp
        refine wpAnyH_ready (rs := [10]) (by kernel_rfl) (by simp) ?_
        refine AllReadyH.cons rfl (fun K hK => ?_) AllReadyH.nil
        go_simp
        refine hK.out _ _ Ht11.out (fun hHeld => ?_)
        clear hK
        refine wpAnyH_done (by kernel_rfl) ?_ _
        refine NoPanic.normal ?_
        go_simp
        generalize w10.setCell ⟨tw, 8, none⟩ (.slice xa xn xc) = w11 at *
        go_wp2_with (first | (go_at_call 38; refine (num38 _ _).mono ?_; rintro e wx ⟨rfl, ex⟩; have ex := ex.symm; subst ex) | (guard_target =~ wpList _ _ _ ({ dst := some 88, op := _, type := _, pos := _, after := _, guard := _ } :: _) _ _; refine wpList_load_rowGX (by rfl) 31 (.tmp 10) rfl gY rfl #[y0, y1, y2, y3, y4, y5, y6, y7, y8, y9, y10, y11, y12, y13, y14, y15] 31 _ RY11 Tryd.underlying31 rfl sY ?_) | (guard_target =~ wpList _ _ _ ({ dst := some 89, op := _, type := _, pos := _, after := _, guard := _ } :: _) _ _; refine wpList_load_rowGX (by rfl) 31 (.tmp 12) rfl gZ rfl #[y0, y1, y2, y3, y4, y5, y6, y7, y8, y9, y10, y11, y12, y13, y14, y15] 31 _ RZ11 Tryd.underlying31 rfl sY ?_))
        go_ret
        exact ⟨rfl, _, _, _, HTw.out, HGr.out, by simp, HT9.out.trans HtB.out (fun _ _ q => q)⟩
    · have hsE : sgE ms = 4 := if_neg hsm
      rw [hsE]
      have Hh9 := shutX h9
      clear h9 hsE
      go_wp2_with (first | (go_at_call 38; refine (num38 _ _).mono ?_; rintro e wx ⟨rfl, ex⟩; have ex := ex.symm; subst ex) | (guard_target =~ wpList _ _ _ ({ dst := some 88, op := _, type := _, pos := _, after := _, guard := _ } :: _) _ _; refine wpList_load_rowGX (by rfl) 31 (.tmp 10) rfl gY rfl #[y0, y1, y2, y3, y4, y5, y6, y7, y8, y9, y10, y11, y12, y13, y14, y15] 31 _ RY9 Tryd.underlying31 rfl sY ?_) | (guard_target =~ wpList _ _ _ ({ dst := some 89, op := _, type := _, pos := _, after := _, guard := _ } :: _) _ _; refine wpList_load_rowGX (by rfl) 31 (.tmp 12) rfl gZ rfl #[y0, y1, y2, y3, y4, y5, y6, y7, y8, y9, y10, y11, y12, y13, y14, y15] 31 _ RZ9 Tryd.underlying31 rfl sY ?_))
      go_ret
      exact ⟨rfl, _, vq, Q, Hh9.out, HGr.out, by omega, HT9.out⟩
end
end Go.Proofs.YtnlcngcilojnkabDoor
