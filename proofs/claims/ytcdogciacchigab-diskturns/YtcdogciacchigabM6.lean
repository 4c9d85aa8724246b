/- What the closures of the numbered calls do. -/
import Derived.Test.YtcdogciacchigabM4
import Derived.Test.YtcdogciacchigabM5
namespace Go.Proofs.Ytcdogciacchigab
open Go.RowKit Go.Maps
set_option linter.unusedVariables false

theorem run_append_src2 {P : Program} {t tx e : TypeId} {z : Value} {bytes : Nat} (ht : P.underlying t = some (.slice e)) (hinf : (P.info? e).map (fun i => (i.zero, i.size, i.bytes)) = some (some z, 1, bytes)) (hz : z.cells.size = 1)
    (ty : TypeId) (w : World) (v : Value) (xs : List Value) (hown : Own w e v xs) (x : Value) (n : Nat) (news : List Value) (hs : Src P 1 tx x n news w) (hb : (xs.length + n) * bytes ≤ 140737488355328) (hm : xs.length + n ≤ maxLen) :
    ∃ v' w', (Builtin.append_ #[t, tx] ty #[v, x]).run P w = .ok v' w' ∧ Own w' e v' (xs ++ news) ∧ Grew w w' v v' ∧ Own w' e v xs := by
  obtain ⟨i, hi, hz0, hz1, hz2⟩ := info_parts hinf
  have hnl : news.length = n := by simpa using hs.newsLen
  have h63 : xs.length + n ≤ 9223372036854775807 := by simp only [maxLen] at hm; omega
  have grow : ∀ (base : Option Addr) (sCap : Nat), v = .slice base xs.length sCap → (Builtin.firstCells 1 xs.length (.slice base xs.length sCap)).run P w.drew = .ok xs.toArray w.drew → sCap < xs.length + n →
      ∃ v' w', (Builtin.append_ #[t, tx] ty #[v, x]).run P w = .ok v' w' ∧ Own w' e v' (xs ++ news) ∧ Grew w w' v v' ∧ Own w' e v xs := by
    intro base sCap hv hold hlt
    have hr := run_append_grow_src (P := P) w t tx ty e i z ht hi hz0 base xs.length sCap xs (by rw [hz1]; exact hold) x n news (by rw [hz1]; exact hs) hlt (by omega) (growslice_fits hlt (by rw [hz2]; exact hb))
    have hge := grownCap_ge w (xs.length + n) sCap e
    have hcm := grownCap_le_maxLen w (xs.length + n) sCap e hm
    have hown' := hown.turn_no ((Turn.refl no w).drew.alloc (.cells ((xs ++ news).toArray ++ Builtin.zeroCells z.cells (grownCap w (xs.length + n) sCap e - (xs.length + n))) e))
    rw [hv] at hown' ⊢
    refine ⟨_, _, hr, ?_, ⟨⟨rfl, rfl, rfl, by simp, fun k hk _ => Below.heap_alloc w.drew _ k hk⟩, .inr ⟨w.heap.size, rfl, Nat.le_refl _, by simp⟩⟩, hown'⟩
    have hl : (xs ++ news).length = xs.length + n := by simp [hnl]
    have ho := Own.of (w := w.drew.alloc (.cells ((xs ++ news).toArray ++ Builtin.zeroCells z.cells (grownCap w (xs.length + n) sCap e - (xs.length + n))) e)) (e := e) (xs := xs ++ news) (g := w.heap.size) (cap := grownCap w (xs.length + n) sCap e)
      (heap_alloc_new w.drew _) (by rw [hl]; exact hge) hcm (by simp only [Array.size_append, List.size_toArray, size_zeroCells, hz, hl]; omega) (by simp only [Array.toList_append]; exact List.take_left)
    rw [hl] at ho
    exact ho
  rcases hown.shape with ⟨rfl, rfl⟩ | ⟨g, cap, cur, rfl, hg, h1, h2, h3, h4⟩
  · by_cases hn : n = 0
    · subst hn
      have hnn : news = [] := List.eq_nil_of_length_eq_zero hnl
      subst hnn
      refine ⟨.slice none 0 0, w, ?_, Own.nil w e, ⟨⟨rfl, rfl, rfl, Nat.le_refl _, fun _ _ _ => rfl⟩, .inl rfl⟩, Own.nil w e⟩
      have hc := hs.cells
      rcases hs.kind with ⟨e', hk⟩ | hk <;> simp [Builtin.append_, run_underlying ht, run_underlying hk, sizeOf, typeInfo, hi, hz1, hs.len, hc]
    · exact grow none 0 rfl (by simp [Builtin.firstCells]) (by simp; omega)
  · by_cases hroom : xs.length + n ≤ cap
    · have hfit : xs.length + news.length ≤ cur.size := by omega
      have hst := run_storeCells_at P g xs.length e news 0 cur w hg (by simpa using hfit) hs.one
      have hr : (Builtin.append_ #[t, tx] ty #[.slice (some ⟨g, 0, none⟩) xs.length cap, x]).run P w = .ok (.slice (some ⟨g, 0, none⟩) (xs.length + n) cap) (w.setRow g (cur.toList.take xs.length ++ news ++ cur.toList.drop (xs.length + news.length)).toArray) := by
        have hc := hs.cells
        simp only [Nat.add_zero] at hst
        rcases hs.kind with ⟨e', hk⟩ | hk <;> simp [Builtin.append_, run_underlying ht, run_underlying hk, sizeOf, typeInfo, hi, hz1, hs.len, hroom, hc, Addr.add_lit, hst]
      refine ⟨_, _, hr, ?_, ⟨⟨rfl, rfl, rfl, by simp, fun k _ hk => setRow_other w g k _ (fun q => hk (by simp [Value.ownBlock, q]))⟩, .inl rfl⟩, ?_⟩
      have hl : (xs ++ news).length = xs.length + n := by simp [hnl]
      have ho := Own.of (w := w.setRow g (cur.toList.take xs.length ++ news ++ cur.toList.drop (xs.length + news.length)).toArray) (e := e) (xs := xs ++ news) (g := g) (cap := cap)
        (setRow_heap w g cur _ e _ hg) (by rw [hl]; exact hroom) h2 (by simp only [List.size_toArray, List.length_append, List.length_take, List.length_drop, Array.length_toList]; omega) (by rw [h4]; exact List.take_left)
      · rw [hl] at ho
        exact ho
      · refine Own.of (setRow_heap w g cur _ e _ hg) h1 h2 (by simp only [List.size_toArray, List.length_append, List.length_take, List.length_drop, Array.length_toList]; omega) ?_
        have hlt : (cur.toList.take xs.length).length = xs.length := by rw [h4]
        rw [show ∀ l : List Value, l.toArray.toList = l from fun _ => rfl, List.append_assoc, List.take_append_of_le_length (by omega), List.take_of_length_le (by omega)]
        exact h4
    · refine grow (some ⟨g, 0, none⟩) cap rfl ?_ (by omega)
      exact run_firstCells_some w.drew 1 xs.length ⟨g, 0, none⟩ xs.length cap xs (by simp) (fun j u hu => by
        have := World.ownsRow.cells hown (g := g) rfl j u hu
        simpa using this)


theorem wp_append_run {P : Program} {o : Oper} {a : Act} {w : World} {K : Act → World → Prop} {Q : Exit → Act → World → Prop} (s x : Operand) {t tx : TypeId}
    (ho : o.op = .call { callee := .builtin .append, args := #[s, x], argTypes := #[t, tx] }) (v xv : Value) (hs : a.eval s = v) (hx : a.eval x = xv) {v' : Value} {w' : World}
    (hr : (Builtin.append_ #[t, tx] o.type #[v, xv]).run P w = .ok v' w') (h : K (a.put o.dst v') w') : Oper.wp P o a w K Q := by
  unfold Oper.wp execOp
  simp only [ho, resolve, invoke, builtin, Sem.run_bind, Sem.run_pure, Result.andThen_ok, List.map_toArray, List.map_cons, List.map_nil, hs, hx, hr]
  exact h
theorem wpList_append_run {P : Program} {ops : Array Oper} {rest : List Oper} {o : Oper} {a : Act} {w : World} {Q : Exit → Act → World → Prop} (hgd : o.guard = none) (s x : Operand) {t tx : TypeId}
    (ho : o.op = .call { callee := .builtin .append, args := #[s, x], argTypes := #[t, tx] }) (v xv : Value) (hs : a.eval s = v) (hx : a.eval x = xv) {v' : Value} {w' : World}
    (hr : (Builtin.append_ #[t, tx] o.type #[v, xv]).run P w = .ok v' w') (h : wpList P ops Q rest (a.put o.dst v') w') : wpList P ops Q (o :: rest) a w :=
  wpList_plain hgd fun K hK => wp_append_run s x ho v xv hs hx hr (hK _ _ h)

theorem Bs.late {S : Nat → Prop} {w w' : World} {v : Value} {bs : List UInt8} (h : Bs w v bs) (t : Turn S w w') (hn : bs ≠ [] → ∀ g, v.ownBlock = some g → ¬ S g) : Bs w' v bs := by
  by_cases hB : bs = []
  · subst hB
    rcases h with ⟨e, _⟩ | ⟨A, C, e, h1, h2, h3⟩
    · exact Or.inl ⟨e, rfl⟩
    · exact Or.inr ⟨A, C, e, h1, h2, fun j u hu => by simp at hu⟩
  · exact h.turn t (hn hB)

section
variable {w : World} {p : Nat} {K : Nat → Prop} {bf bt : Option Nat} {V : Nm → Value} {s : St}

theorem Inv.put (h : Inv s) (f : Pf) (hn : isNm f.nm = true) (hs : f.sy ≤ f.bs.length) (hu : usedF s.fs + f.bs.length ≤ s.lim + lenF f.nm s.fs) (hc : (getF f.nm s.fs).isSome = true ∨ s.fs.length < 65536) : Inv { s with fs := putF f s.fs } := by
  have h1 := used_putF f s.fs h.sorted
  have h2 := length_putF f s.fs h.sorted
  refine ⟨sorted_putF h.sorted f, fun g hg => ?_, fun g hg => ?_, ?_, h.lim, ?_, h.arms, h.out⟩
  · rcases mem_putF hg with rfl | q
    · exact hn
    · exact h.names g q
  · rcases mem_putF hg with rfl | q
    · exact hs
    · exact h.sy g q
  · simp only
    omega
  · simp only
    have := h.count
    rw [h2]
    split
    · exact this
    · rename_i q
      rcases hc with q' | q'
      · exact (q q').elim
      · omega

/-- A box of one cell. -/
def Box (w : World) (g : Nat) (v : Value) (e : TypeId) : Prop := Row w g #[v] e
theorem Dp.noBox (h : Dp w p K bf bt V s) {g : Nat} {cs : Array Value} {e : TypeId} (hB : Row w g cs e) (he : e ≠ 82) : g ≠ p ∧ bt ≠ some g ∧ bf ≠ some g := by
  refine ⟨fun q => ?_, fun q => ?_, fun q => ?_⟩
  · subst q
    have := h.row
    unfold Row at this hB
    rw [hB] at this
    simp at this
    exact he this.2
  · rcases h.troubles with ⟨_, e2⟩ | ⟨_, b, D, e2, _, _, o, _⟩
    · rw [e2] at q; cases q
    · rw [e2] at q; cases q
      exact row_not_map hB o rfl
  · rcases h.files with ⟨_, e2⟩ | ⟨_, b, D, e2, _, o, _⟩
    · rw [e2] at q; cases q
    · rw [e2] at q; cases q
      exact row_not_map hB o rfl

/-- The file of a name, or an empty one. -/
def fileOf (l : List Pf) (nm : Nm) : Pf := (getF nm l).getD ⟨nm, [], 0⟩
theorem fileOf_len (l : List Pf) (nm : Nm) : (fileOf l nm).bs.length = lenF nm l := by
  unfold fileOf lenF
  cases getF nm l <;> rfl
theorem fileOf_nm (l : List Pf) (nm : Nm) : (fileOf l nm).nm = nm := by
  unfold fileOf
  cases h : getF nm l with
  | none => rfl
  | some f => exact (getF_mem h).2
/-- What stands in the map, owned. -/
theorem Dp.old (h : Dp w p K bf bt V s) (nm : Nm) : ∃ v, stood V s.fs nm = fileV v (fileOf s.fs nm).sy ∧ Own w 5 v ((fileOf s.fs nm).bs.map bv) ∧ (∀ g, v.ownBlock = some g → K g ∧ g ≠ p ∧ ∀ f' ∈ s.fs, f'.nm ≠ nm → (V f'.nm).ownBlock ≠ some g) := by
  unfold stood fileOf
  cases hg : getF nm s.fs with
  | none => exact ⟨.slice none 0 0, rfl, Own.nil w 5, fun g q => by cases q⟩
  | some f =>
    obtain ⟨h1, h2⟩ := getF_mem hg
    have hb := h.bytes f h1
    rw [h2] at hb
    refine ⟨V nm, rfl, hb, fun g q => ?_⟩
    have ho := h.owned f h1 g (by rw [h2]; exact q)
    refine ⟨ho, fun e => ?_, fun f' hf' hne => h.apart f h1 f' hf' (by rw [h2]; exact hne.symm) g (by rw [h2]; exact q)⟩
    subst e
    rcases hb.shape with ⟨e, _⟩ | ⟨g', cap, cur, e, ho', _⟩
    · rw [e] at q; cases q
    · rw [e] at q; cases q
      have := h.row
      unfold Row at this
      rw [ho'] at this
      simp at this

set_option maxRecDepth 100000 in
set_option maxHeartbeats 4000000 in
theorem does35 (B a0 a1 a2 : Nat) (hB : B ≤ w.heap.size) (h : Dp w p K bf bt V s) (hoff : s.off = false) (nm : Nm) (v : Value) (b : List UInt8) (hb : Bs w v b) (hvK : b ≠ [] → ∀ g, v.ownBlock = some g → ¬ K g)
    (r0 : Row w a0 #[ptr p] 34) (r1 : Row w a1 #[strV nm] 9) (r2 : Row w a2 #[v] 28) (hk0 : ¬ K a0) (hk1 : ¬ K a1) (hk2 : ¬ K a2)
    (hi : Inv { s with fs := putF ⟨nm, (fileOf s.fs nm).bs ++ b, (fileOf s.fs nm).sy⟩ s.fs }) :
    Does B w p K bf bt V s (putF ⟨nm, (fileOf s.fs nm).bs ++ b, (fileOf s.fs nm).sy⟩ s.fs) 47 #[ptr a0, ptr a1, ptr a2] := by
  intro W hD T
  have hnm : isNm nm = true := hi.names ⟨nm, (fileOf s.fs nm).bs ++ b, (fileOf s.fs nm).sy⟩ (getF_mem (getF_put_same ⟨nm, (fileOf s.fs nm).bs ++ b, (fileOf s.fs nm).sy⟩ s.fs h.inv.sorted)).1
  have hn : nm.length ≤ maxLen := by have := isNm_len hnm; simp only [maxLen]; omega
  have hnp : ∀ {g cs e}, Row w g cs e → e ≠ 82 → ¬ (g = p ∨ bt = some g) := fun r he q => by
    obtain ⟨h1, h2, _⟩ := h.noBox r he
    rcases q with q | q
    · exact h1 q
    · exact h2 q
  have q0 := r0.turn T (hnp r0 (by decide))
  have q1 := r1.turn T (hnp r1 (by decide))
  have q2 := r2.turn T (hnp r2 (by decide))
  have hbW : Bs W v b := hb.late T (fun hne g hg q => by
    refine hvK hne g hg ?_
    rcases q with q | q
    · rw [q]; exact h.kp
    · rcases h.troubles with ⟨_, e2⟩ | ⟨_, b', D, e2, kb, _⟩
      · rw [e2] at q; cases q
      · rw [e2] at q; cases q; exact kb)
  obtain ⟨bb, D, rfl, kb, o, fm⟩ := hD.on_files (h.inv.out hoff)
  obtain ⟨ov, hst, hov, hob⟩ := hD.old nm
  have hfs : (counted s).fs = s.fs := rfl
  rw [hfs] at hst hov hob o fm
  generalize hF : fileOf s.fs nm = F at *
  -- the copy of the entry
  have T1 : Turn no W (W.alloc (.cells #[ov, .int .i64 F.sy] 97)).drew := ((Turn.refl no W).alloc _).drew
  have B1 : Row (W.alloc (.cells #[ov, .int .i64 F.sy] 97)).drew W.heap.size #[ov, .int .i64 F.sy] 97 := (Row.new W _ 97).drew
  have hl := fun W' (t : Turn no W W') => (files_look (ownsMap_turn o t (fun q => q)) fm nm hn).2
  rw [hst] at hl
  have hov1 := hov.turn_no T1
  have hb1 := hbW.turn_no T1
  have D1 := hD.turn T1 (fun _ _ q => q)
  have q0' := q0.turn T1 (fun q => q)
  have q1' := q1.turn T1 (fun q => q)
  have q2' := q2.turn T1 (fun q => q)
  have hlen : F.bs.length + b.length ≤ 1073741824 := by
    have h1 := hi.used
    have h2 := hi.lim
    have h3 := lenF_le nm (putF ⟨nm, F.bs ++ b, F.sy⟩ s.fs)
    have h4 : lenF nm (putF ⟨nm, F.bs ++ b, F.sy⟩ s.fs) = (F.bs ++ b).length := by
      have := getF_put_same ⟨nm, F.bs ++ b, F.sy⟩ s.fs h.inv.sorted
      simp only at this
      rw [lenF, this]
    rw [List.length_append] at h4
    simp only at h1 h2
    omega
  generalize hw1 : (W.alloc (.cells #[ov, .int .i64 F.sy] 97)).drew = w1 at *
  obtain ⟨v', w2, hap, hov2, hgr, hold⟩ := run_append_src2 (P := Try.prog) (t := 28) (tx := 28) Try.underlying28 info5 rfl 28 w1 ov (F.bs.map bv) hov1 v b.length (b.map bv) (hb1.src Try.underlying28) (by simp; omega) (by simp [maxLen]; omega)
  have hap' : ∀ ty, (Builtin.append_ #[28, 28] ty #[ov, v]).run Try.prog w1 = .ok v' w2 := fun ty => hap
  have T2 : Turn (fun k => ov.ownBlock = some k) w1 w2 := hgr.turn
  have hgW : W.heap.size < w1.heap.size := by rw [← hw1]; simp
  have hnew : ∀ g, v'.ownBlock = some g → (ov.ownBlock = some g) ∨ w1.heap.size ≤ g := fun g hg => by
    rcases hgr.blk with q | ⟨g', q, h1, _⟩
    · exact Or.inl (by rw [← q]; exact hg)
    · rw [q] at hg; cases hg; exact Or.inr h1
  have B2 : Row w2 W.heap.size #[ov, .int .i64 F.sy] 97 := B1.turn T2 (fun q => by
    have := hov.lt q
    omega)
  have ne : ∀ {g cs e}, Row W g cs e → e ≠ 5 → ov.ownBlock ≠ some g := fun r he q => by
    rcases hov.shape with ⟨e, _⟩ | ⟨g', cap, cur, e, ho', _⟩
    · rw [e] at q; cases q
    · rw [e] at q; cases q
      unfold Row at r
      rw [ho'] at r
      simp at r
      exact he r.2.symm
  -- the file's bytes are the longer ones
  have D2 : Dp w2 p K (some bb) bt V (counted s) := by
    have hne : ov.ownBlock ≠ some p := fun q => (hob p q).2.1 rfl
    refine ⟨D1.inv, D1.row.turn T2 hne, D1.kp, fun k hk => Nat.lt_of_lt_of_le (D1.klt k hk) T2.size, ?_, ?_, fun f hf => ?_, D1.owned, D1.apart⟩
    · refine Or.inr ⟨h.inv.out hoff, bb, D, rfl, kb, ownsMap_turn (ownsMap_turn o T1 (fun q => q)) T2 (fun q => ?_), fm⟩
      rcases hov.shape with ⟨e, _⟩ | ⟨g', cap, cur, e, ho', _⟩
      · rw [e] at q; cases q
      · rw [e] at q; cases q
        exact row_not_map ho' o rfl
    · rcases D1.troubles with q | ⟨q, b', D', e, kb', ne', o', tm⟩
      · exact Or.inl q
      · refine Or.inr ⟨q, b', D', e, kb', ne', ownsMap_turn o' T2 (fun q => ?_), tm⟩
        rcases hov1.shape with ⟨e, _⟩ | ⟨g', cap, cur, e, ho', _⟩
        · rw [e] at q; cases q
        · rw [e] at q; cases q
          exact row_not_map ho' o' rfl
    · by_cases e : f.nm = nm
      · have hg := getF_of_mem h.inv.sorted hf
        rw [e] at hg
        have e1 : fileOf s.fs nm = f := by simp [fileOf, hg]
        have e2 : stood V s.fs nm = fileV (V nm) f.sy := by simp [stood, hg]
        rw [hF] at e1
        subst e1
        rw [e2] at hst
        have : V nm = ov := by simpa [fileV] using hst
        rw [e, this]
        exact hold
      · exact (D1.bytes f hf).turn T2 (fun g hg q => (hob g q).2.2 f hf e hg)
  have S3 : Turn (fun k => k = W.heap.size) w2 (w2.setCell ⟨W.heap.size, 0, none⟩ v') := Turn.setCell (S := fun k => k = W.heap.size) (Turn.refl _ w2) (p := ⟨W.heap.size, 0, none⟩) (fun _ => rfl) _
  have B3 : Row (w2.setCell ⟨W.heap.size, 0, none⟩ v') W.heap.size #[v', .int .i64 F.sy] 97 := B2.set 0 v'
  have D3 := D2.turn S3 (fun k hk q => by have := hD.klt k hk; omega)
  have hv3 : Own (w2.setCell ⟨W.heap.size, 0, none⟩ v') 5 v' ((F.bs ++ b).map bv) := by
    rw [List.map_append]
    refine hov2.turn S3 (fun g hg q => ?_)
    rcases hnew g hg with q' | q'
    · have := hov.lt q'; omega
    · omega
  have hpt := put36 D3 (h.inv.out hoff) ⟨nm, F.bs ++ b, F.sy⟩ v' hv3 (by
    have := hi
    exact ⟨this.sorted, this.names, this.sy, this.used, this.lim, this.count, hD.inv.arms, this.out⟩) (fun g hg => by
    rcases hnew g hg with q' | q'
    · exact ⟨(hob g q').2.1, (hob g q').2.2⟩
    · refine ⟨fun e => ?_, fun f' hf' hne e => ?_⟩
      · have := D1.klt p D1.kp; omega
      · have := D1.klt g (D1.owned f' hf' g e); omega)
  have c1 := q0'.turn T2 (ne q0 (by decide))
  have c2 := q1'.turn T2 (ne q1 (by decide))
  have c3 := q2'.turn T2 (ne q2 (by decide))
  have ltA := q0.lt
  have ltB := q1.lt
  have e0 : (w2.setCell ⟨W.heap.size, 0, none⟩ v').cell? ⟨a0, 0, none⟩ = some (ptr p) := (c1.other (p := ⟨W.heap.size, 0, none⟩) (by simp; omega) _).cell 0 _ rfl
  have e1 : (w2.setCell ⟨W.heap.size, 0, none⟩ v').cell? ⟨a1, 0, none⟩ = some (strV nm) := (c2.other (p := ⟨W.heap.size, 0, none⟩) (by simp; omega) _).cell 0 _ rfl
  have e2 : (w2.setCell ⟨W.heap.size, 0, none⟩ v').cell? ⟨W.heap.size, 0, none⟩ = some v' := B3.cell 0 _ rfl
  have e3 : (w2.setCell ⟨W.heap.size, 0, none⟩ v').cell? ⟨W.heap.size, 1, none⟩ = some (.int .i64 F.sy) := B3.cell 1 _ rfl
  have e4 : w1.cell? ⟨W.heap.size, 0, none⟩ = some ov := B1.cell 0 _ rfl
  have e5 : w1.cell? ⟨a2, 0, none⟩ = some v := q2'.cell 0 _ rfl
  have e6 : w2.cell? ⟨W.heap.size, 0, none⟩ = some ov := B2.cell 0 _ rfl
  have e7 := B2.frozen 0
  have cc : ∀ W', Turn no W W' → W'.cell? ⟨a0, 0, none⟩ = some (ptr p) ∧ W'.cell? ⟨a1, 0, none⟩ = some (strV nm) ∧ W'.cell? ⟨p, 2, none⟩ = some (.map (some bb)) := fun W' t => ⟨(q0.turn t (fun q => q)).cell 0 _ rfl, (q1.turn t (fun q => q)).cell 0 _ rfl, (hD.row.turn t (fun q => q)).cell 2 _ rfl⟩
  have TT : Turn (fun k => K k ∨ B ≤ k) W (w2.setCell ⟨W.heap.size, 0, none⟩ v') := ((T1.of_no).trans T2 (fun k _ q => Or.inl (hob k q).1)).trans S3 (fun k hk q => by omega)
  have hBW : B ≤ w1.heap.size := by have := T.size; omega
  have hKv : ∀ g, v'.ownBlock = some g → K g ∨ B ≤ g := fun g hg => by
    rcases hnew g hg with q' | q'
    · exact Or.inl (hob g q').1
    · exact Or.inr (by omega)
  have hkp := h.kp
  obtain ⟨oa, on, oc, rfl⟩ := hov.slice
  obtain ⟨va, vn, vc, rfl⟩ := hv3.slice
  obtain ⟨ua, un, rfl⟩ := hb.slice
  have HW1 : Hid ((W.alloc (.cells #[.slice oa on oc, .int .i64 F.sy] 97)).drew = w1) := hw1
  unfold fileV ptr strV at *
  generalize hw3 : w2.setCell ⟨W.heap.size, 0, none⟩ (.slice va vn vc) = w3 at *
  clear hw1 hi hst hov hob o fm hD D1 D2 D3 hov1 hb1 q0' q1' q2' hap hov2 hgr hold B2 B3 S3 hv3 c1 c2 c3 ne r0 r1 r2 hb hbW h T
  go_enter Try.func47, Try.ntmps47
  go_wp2_with fail
  refine wp_region_noPanic ?_
  refine wp_region_held_drew (S := fun W' => Turn no W W') (by kernel_rfl) (Turn.refl _ W).drew (fun hHeld => ?_)
  refine' wpAnyH_take (i := 0) (v := .pointer (some ⟨p, 0, none⟩)) rfl (by kernel_rfl) (by kernel_rfl) (by kernel_rfl) (fun _ _ _ h => h) (Or.inl ⟨by kernel_rfl, fun W hW => ?y1⟩) hHeld ?r1
  · have c := (cc _ hW).1
    go_simp
  refine' wpAnyH_take (i := 1) (v := .pointer (some ⟨p, 0, none⟩)) rfl (by kernel_rfl) (by kernel_rfl) (by kernel_rfl) (fun _ _ _ h => h) (Or.inl ⟨by kernel_rfl, fun W hW => ?y2⟩) hHeld ?r2
  · go_simp
  refine' wpAnyH_take (i := 2) (v := .pointer (some ⟨p, 2, none⟩)) rfl (by kernel_rfl) (by kernel_rfl) (by kernel_rfl) (fun _ _ _ h => h) (Or.inl ⟨by kernel_rfl, fun W hW => ?y3⟩) hHeld ?r3
  · go_simp
  refine' wpAnyH_take (i := 3) (v := .map (some bb)) rfl (by kernel_rfl) (by kernel_rfl) (by kernel_rfl) (fun _ _ _ h => h) (Or.inl ⟨by kernel_rfl, fun W hW => ?y4⟩) hHeld ?r4
  · have c := (cc _ hW).2.2
    go_simp
  refine' wpAnyH_take (i := 4) (v := .string ⟨nm.toArray⟩) rfl (by kernel_rfl) (by kernel_rfl) (by kernel_rfl) (fun _ _ _ h => h) (Or.inl ⟨by kernel_rfl, fun W hW => ?y5⟩) hHeld ?r5
  · have c := (cc _ hW).2.1
    go_simp
  refine' wpAnyH_take (i := 5) (v := .agg #[.slice oa on oc, .int .i64 F.sy]) rfl (by kernel_rfl) (by kernel_rfl) (by kernel_rfl) (fun _ _ _ h => h) (Or.inl ⟨by kernel_rfl, fun W hW => ?y6⟩) hHeld ?r6
  · have c := hl _ hW
    go_simp
  refine wpAnyH_ready (rs := [6]) (by kernel_rfl) (by simp) ?_
  refine AllReadyH.cons rfl (fun K hK => ?_) AllReadyH.nil
  go_simp
  refine hK.out _ _ ((Turn.refl no W).alloc _).drew (fun hHeld => ?_)
  clear hK
  refine wpAnyH_ready (rs := [7]) (by kernel_rfl) (by simp) ?_
  refine AllReadyH.cons rfl (fun K hK => ?_) AllReadyH.nil
  go_simp
  rw [HW1.out]
  refine hK.out _ _ T1 (fun hHeld => ?_)
  clear hK
  refine wpAnyH_done (by kernel_rfl) ?_ _
  refine NoPanic.normal ?_
  go_wp2_with (at_builtin; refine wpList_append_run rfl _ _ (t := 28) (tx := 28) rfl _ _ rfl rfl (hap' _) ?_)
  refine hpt.mono ?_
  rintro e w4 ⟨rfl, hD4, T4⟩
  go_wp2_with fail
  refine ⟨rfl, _, results_none rfl _ _ _, rfl, _, _, hD4, fun k q => ?_, TT.trans T4 (fun k _ q => ?_)⟩
  · rcases q with q | q
    · exact Or.inl q
    · exact hKv k q
  · rcases q with q | q
    · rw [q]; exact Or.inl hkp
    · cases q; exact Or.inl kb

set_option maxRecDepth 100000 in
set_option maxHeartbeats 4000000 in
theorem does56 (B a0 a1 : Nat) (hB : B ≤ w.heap.size) (h : Dp w p K bf bt V s) (hoff : s.off = false) (nm : Nm) (hn : nm.length ≤ maxLen) (hin : getF nm s.fs ≠ none)
    (r0 : Row w a0 #[ptr p] 34) (r1 : Row w a1 #[strV nm] 9) :
    Does B w p K bf bt V s (dropF nm s.fs) 76 #[ptr a0, ptr a1] := by
  intro W hD T
  have hnp : ∀ {g cs e}, Row w g cs e → e ≠ 82 → ¬ (g = p ∨ bt = some g) := fun r he q => by
    obtain ⟨h1, h2, _⟩ := h.noBox r he
    rcases q with q | q
    · exact h1 q
    · exact h2 q
  have q0 := (r0.turn T (hnp r0 (by decide))).cell 0 _ rfl
  have q1 := (r1.turn T (hnp r1 (by decide))).cell 0 _ rfl
  have hd := drop57 hD (h.inv.out hoff) nm hin hn
  have hkp := h.kp
  have hkb : ∀ k, bf = some k → K k := fun k q => by
    rcases h.files with ⟨_, e2⟩ | ⟨_, b, D, e2, kb, o, _⟩
    · rw [e2] at q; cases q
    · rw [e2] at q; cases q; exact kb
  clear h hD r0 r1 hnp T
  unfold ptr strV at *
  go_enter Try.func76, Try.ntmps76
  go_wp2_with fail
  refine hd.mono ?_
  rintro e w4 ⟨rfl, hD4, T4⟩
  go_wp2_with fail
  refine ⟨rfl, _, results_none rfl _ _ _, rfl, _, _, hD4, fun k q => Or.inl q, T4.mono (fun k _ q => ?_)⟩
  rcases q with q | q
  · rw [q]; exact Or.inl hkp
  · exact Or.inl (hkb k q)

set_option maxRecDepth 100000 in
set_option maxHeartbeats 4000000 in
theorem does53 (B a0 a1 a2 : Nat) (hB : B ≤ a2) (h : Dp w p K bf bt V s) (hoff : s.off = false) (nm : Nm) (f : Pf) (hf : getF nm s.fs = some f)
    (r0 : Row w a0 #[ptr p] 34) (r1 : Row w a1 #[strV nm] 9) (r2 : Row w a2 #[V nm, .int .i64 f.sy] 97) (hk2 : ¬ K a2)
    (hi : Inv { s with fs := putF ⟨nm, f.bs, f.bs.length⟩ s.fs }) :
    Does B w p K bf bt V s (putF ⟨nm, f.bs, f.bs.length⟩ s.fs) 74 #[ptr a2, ptr a0, ptr a1] := by
  intro W hD T
  have hnp : ∀ {g cs e}, Row w g cs e → e ≠ 82 → ¬ (g = p ∨ bt = some g) := fun r he q => by
    obtain ⟨h1, h2, _⟩ := h.noBox r he
    rcases q with q | q
    · exact h1 q
    · exact h2 q
  obtain ⟨hf1, hf2⟩ := getF_mem hf
  have q0 := r0.turn T (hnp r0 (by decide))
  have q1 := r1.turn T (hnp r1 (by decide))
  have q2 := r2.turn T (hnp r2 (by decide))
  obtain ⟨ov, hst, hov, hob⟩ := hD.old nm
  have hfs : (counted s).fs = s.fs := rfl
  rw [hfs] at hst hov hob
  have e1 : fileOf s.fs nm = f := by simp [fileOf, hf]
  have e2 : stood V s.fs nm = fileV (V nm) f.sy := by simp [stood, hf]
  rw [e1] at hst hov
  rw [e2] at hst
  have e3 : V nm = ov := by simpa [fileV] using hst
  rw [e3] at q2
  have S1 : Turn (fun k => k = a2) W (W.setCell ⟨a2, 1, none⟩ (.int .i64 f.bs.length)) := Turn.setCell (S := fun k => k = a2) (Turn.refl _ W) (p := ⟨a2, 1, none⟩) (fun _ => rfl) _
  have B1 : Row (W.setCell ⟨a2, 1, none⟩ (.int .i64 f.bs.length)) a2 #[ov, .int .i64 f.bs.length] 97 := q2.set 1 _
  have D1 := hD.turn S1 (fun k hk q => hk2 (q ▸ hk))
  have hv1 : Own (W.setCell ⟨a2, 1, none⟩ (.int .i64 f.bs.length)) 5 ov (f.bs.map bv) := hov.turn S1 (fun g hg q => hk2 (q ▸ (hob g hg).1))
  have hpt := put36 D1 (h.inv.out hoff) ⟨nm, f.bs, f.bs.length⟩ ov hv1 (by
    have := hi
    exact ⟨this.sorted, this.names, this.sy, this.used, this.lim, this.count, hD.inv.arms, this.out⟩) (fun g hg => (hob g hg).2)
  have n0 : a2 ≠ a0 := fun q => by
    subst q
    unfold Row at r0 r2
    rw [r0] at r2
    simp at r2
  have n1 : a2 ≠ a1 := fun q => by
    subst q
    unfold Row at r1 r2
    rw [r1] at r2
    simp at r2
  have c0 := q2.cell 0 _ rfl
  have c1 := q2.cell 1 _ rfl
  have f1 := q2.frozen 1
  have d0 := (q0.other (p := ⟨a2, 1, none⟩) n0 (.int .i64 f.bs.length)).cell 0 _ rfl
  have d1 := (q1.other (p := ⟨a2, 1, none⟩) n1 (.int .i64 f.bs.length)).cell 0 _ rfl
  have d2 := B1.cell 0 _ rfl
  have d3 := B1.cell 1 _ rfl
  have hkp := h.kp
  have hkb : ∀ k, bf = some k → K k := fun k q => by
    rcases h.files with ⟨_, e2⟩ | ⟨_, b, D, e2, kb, o, _⟩
    · rw [e2] at q; cases q
    · rw [e2] at q; cases q; exact kb
  have hKv : ∀ g, ov.ownBlock = some g → K g := fun g hg => (hob g hg).1
  obtain ⟨oa, on, oc, hsl, hon⟩ : ∃ a n c, ov = .slice a n c ∧ n = f.bs.length := by
    rcases hov.shape with ⟨e, q⟩ | ⟨g, cap, cur, e, _⟩
    · exact ⟨_, _, _, e, by have := List.map_eq_nil_iff.1 q; simp [this]⟩
    · exact ⟨_, _, _, e, by simp⟩
  subst hon
  have TT : Turn (fun k => K k ∨ B ≤ k) W (W.setCell ⟨a2, 1, none⟩ (.int .i64 f.bs.length)) := S1.mono (fun k _ q => Or.inr (by omega))
  generalize hw1 : W.setCell ⟨a2, 1, none⟩ (.int .i64 f.bs.length) = w1 at *
  clear h hD D1 r0 r1 r2 hnp T hi B1 q0 q1 q2 hst hov hob hv1 e3 e2 S1
  subst hsl
  unfold fileV ptr strV at *
  go_enter Try.func74, Try.ntmps74
  go_wp2_with fail
  refine hpt.mono ?_
  rintro e w4 ⟨rfl, hD4, T4⟩
  go_wp2_with fail
  refine ⟨rfl, _, results_none rfl _ _ _, rfl, _, _, hD4, fun k q => ?_, TT.trans T4 (fun k _ q => ?_)⟩
  · rcases q with q | q
    · exact Or.inl q
    · exact Or.inl (hKv k q)
  · rcases q with q | q
    · rw [q]; exact Or.inl hkp
    · exact Or.inl (hkb k q)
end
end Go.Proofs.Ytcdogciacchigab
