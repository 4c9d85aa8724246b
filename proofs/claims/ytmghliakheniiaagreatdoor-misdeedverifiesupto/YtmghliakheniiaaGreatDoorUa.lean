/- Texts in one. -/
import Derived.Test.YtmghliakheniiaaGreatDoorTa
/- Signed of a registry; lists of messages. -/
namespace Go.Proofs.YtmghliakheniiaaGreatDoor
open Go.RowKit Go.Maps Go.MuLone
set_option linter.unusedVariables false

theorem Own.shp {w : World} {e : TypeId} {v : Value} {xs : List Value} (h : Own w e v xs) : ∃ a n cap, v = .slice a n cap := by
  rcases h.shape with ⟨rfl, _⟩ | ⟨g, cap, cur, rfl, _⟩
  · exact ⟨_, _, _, rfl⟩
  · exact ⟨_, _, _, rfl⟩
theorem Own.away {w : World} {e e' : TypeId} {v : Value} {xs : List Value} {g : Nat} {c : Array Value} {f : Nat × Nat} (h : Own w e v xs) (ho : w.heap[g]? = some (.cells c e' f)) (hne : e ≠ e') : v.ownBlock ≠ some g := fun hg => by
  obtain ⟨c', ho'⟩ := h.obj hg
  exact hne (tag_ne ho' ho)

theorem info31 : (Tryz.prog.info? 75).map (fun i => (i.zero, i.size, i.bytes)) = some (some (.slice none 0 0), 1, 24) := by kernel_rfl
def ByteRow (w : World) (m : Value) : Prop := ∀ g, m.ownBlock = some g → ∃ c f, w.heap[g]? = some (.cells c 5 f)
/-- A list of messages, all of it made since the world had 'old' blocks. -/
structure Ml (old : Nat) (w : World) (v : Value) (ts : List (Value × List UInt8)) : Prop where
  own : Own w 75 v (ts.map (·.1))
  each : ∀ t ∈ ts, Bs w t.1 t.2 ∧ ByteRow w t.1
  fv : ∀ g, v.ownBlock = some g → old ≤ g
  fe : ∀ t ∈ ts, ∀ g, t.1.ownBlock = some g → old ≤ g
theorem Ml.nil (old : Nat) (w : World) : Ml old w (.slice none 0 0) [] := ⟨Own.nil _ _, fun t h => (by cases h), fun g h => (by cases h), fun t h => (by cases h)⟩
theorem ByteRow.turn {S : Nat → Prop} {w w' : World} {m : Value} (h : ByteRow w m) (t : Turn S w w') (hS : ∀ g, m.ownBlock = some g → ¬ S g) : ByteRow w' m := fun g hg => by
  obtain ⟨c, f, ho⟩ := h g hg
  exact ⟨c, f, t.obj ho (hS g hg)⟩
theorem Ml.turn {S : Nat → Prop} {old : Nat} {w w' : World} {v : Value} {ts : List (Value × List UInt8)} (h : Ml old w v ts) (t : Turn S w w') (hS : ∀ g, old ≤ g → ¬ S g) : Ml old w' v ts :=
  ⟨h.own.turn t (fun g hg => hS g (h.fv g hg)), fun x hx => ⟨(h.each x hx).1.turn t (fun g hg => hS g (h.fe x hx g hg)), (h.each x hx).2.turn t (fun g hg => hS g (h.fe x hx g hg))⟩, h.fv, h.fe⟩
theorem Ml.turn_no {old : Nat} {w w' : World} {v : Value} {ts : List (Value × List UInt8)} (h : Ml old w v ts) (t : Turn no w w') : Ml old w' v ts := h.turn t (fun _ _ q => q)
theorem Ml.push {old : Nat} {w w1 w2 w3 : World} {v v' m : Value} {s : List UInt8} {ts : List (Value × List UInt8)} (h : Ml old w v ts) (t1 : Turn no w w1) (b : Bs w1 m s) (br : ByteRow w1 m) (fm : ∀ g, m.ownBlock = some g → w.heap.size ≤ g) (t2 : Turn no w1 w2) (o : Own w3 75 v' (ts.map (·.1) ++ [m])) (gr : Grew w2 w3 v v') (ho : old ≤ w.heap.size) : Ml old w3 v' (ts ++ [(m, s)]) := by
  have hvl : ∀ g, v.ownBlock = some g → g < w.heap.size := fun g hg => h.own.lt hg
  have s1 := t1.size
  have s2 := t2.size
  have ov := (h.own.turn_no t1).turn_no t2
  refine ⟨by simpa using o, fun x hx => ?_, fun g hg => ?_, fun x hx g hg => ?_⟩
  · rcases List.mem_append.1 hx with hx | hx
    · have he := h.each x hx
      have b2 := (he.2.turn t1 (fun _ _ q => q)).turn t2 (fun _ _ q => q)
      have hne : ∀ g, x.1.ownBlock = some g → ¬ v.ownBlock = some g := fun g hg q => by
        obtain ⟨c, f, ho⟩ := b2 g hg
        exact ov.away ho (by decide) q
      exact ⟨((he.1.turn_no t1).turn_no t2).turn gr.turn hne, b2.turn gr.turn hne⟩
    · simp at hx
      subst hx
      have hne : ∀ g, m.ownBlock = some g → ¬ v.ownBlock = some g := fun g hg q => by have := hvl g q; have := fm g hg; omega
      exact ⟨(b.turn_no t2).turn gr.turn hne, (br.turn t2 (fun _ _ q => q)).turn gr.turn hne⟩
  · exact gr.fresh h.fv (by omega) g hg
  · rcases List.mem_append.1 hx with hx | hx
    · exact h.fe x hx g hg
    · simp at hx
      subst hx
      have := fm g hg
      omega
theorem conv_row (w : World) (s : List UInt8) (hs : s.length ≤ 1048576) : ∃ cap w', (convert 9 75 (.string ⟨s.toArray⟩)).run Tryz.prog w = .ok (.slice (some ⟨w.heap.size, 0, none⟩) s.length cap) w' ∧ Turn no w w' ∧ w.heap.size < w'.heap.size ∧ Bs w' (.slice (some ⟨w.heap.size, 0, none⟩) s.length cap) s ∧ ByteRow w' (.slice (some ⟨w.heap.size, 0, none⟩) s.length cap) := by
  obtain ⟨h, T, hz, k, l, m, _⟩ := conv_bs w s (by omega)
  exact ⟨_, _, h, T, by omega, .inr ⟨_, _, rfl, l, m, fun j u hu => by rw [Addr.add_lit]; simpa using k j u hu⟩, fun g hg => by
    cases hg
    exact ⟨_, _, Lib.bytesWorld_at_new w 5 ⟨s.toArray⟩⟩⟩
theorem wpList_conv_run {P : Program} {ops : Array Oper} {rest : List Oper} {o : Oper} {a : Act} {w : World} {Q : Exit → Act → World → Prop} (hgd : o.guard = none) (x : Operand) {t1 t2 : TypeId} (ho : o.op = .convert t1 t2 x) (v : Value) (hx : a.eval x = v) {v' : Value} {w' : World}
    (hr : (convert t1 t2 v).run P w = .ok v' w') (h : wpList P ops Q rest (a.put o.dst v') w') : wpList P ops Q (o :: rest) a w :=
  wpList_plain hgd fun K hK => by
    unfold Oper.wp execOp
    simp only [ho, Sem.run_bind, Result.andThen_ok, hx, hr, Sem.run_pure]
    exact hK _ _ h
theorem src_oneT {P : Program} {tx e' e : TypeId} (hk : P.underlying tx = some (.slice e')) (w : World) (u : Value) (hu : u.oneCell' = true) : Src P 1 tx (.slice (some ⟨w.heap.size, 0, none⟩) 1 1) 1 [u] (w.alloc (.cells #[u] e)) :=
  Src.ofSlice _ hk _ _ _ _ (by simp) (fun j x hx => by
    have := (Row.new w #[u] e).cell j x (by simpa using hx)
    simpa [Addr.add_lit] using this) (by intro x hx; simp at hx; subst hx; exact hu)

section
variable {w : World} {p br bt : Nat} {V : UInt64 → Value} {E : List UInt64} {R : List Rec}
set_option maxRecDepth 100000 in
set_option maxHeartbeats 2000000 in
theorem signed23 (h : Bk w p br bt V E R) (a : UInt64) (hR : ∀ r ∈ R, r.2.length ≤ 1048576) (hRl : R.length ≤ 1599289640401) : Calls Tryz.prog 10 #[.pointer (some ⟨p, 0, none⟩), .int .u64 a.toNat] w fun e w' =>
    ∃ v ts, e = .returned v ∧ Ml w.heap.size w' v ts ∧ ts.map (·.2) = txs R a ∧ Bk w' p br bt V E R ∧ Turn (fun k => k = p) w w' := by
  obtain ⟨D1, D2, hr, h2⟩ := h.reg
  have hm := made25 w p hr.c0
  have R1 := hr.held
  have T1 := held_turn w p
  have hl := lock_free muLib ⟨p, 1, none⟩ w hr.c1 hr.f1
  have o1 := ownsMap_turn hr.recs T1 (fun q => hr.ne1 q)
  have o2 := ownsMap_turn hr.texts T1 (fun q => hr.ne2 q)
  have rows1 : ∀ b, Own (w.setCell ⟨p, 1, none⟩ (.int .i32 1)) 9 (V b) ((txs R b).map strV) := fun b => (h.rows b).turn T1 (fun g hg q => (h.row_ne hg).1 q)
  obtain ⟨v0, ps, hlk, hv0⟩ := o2.lookup law29 Tryz.underlying71 (zero81 _) (zd := .held (.slice none 0 0)) (zp := []) rfl (adKey_of a)
  have hv0' : v0 = V a := by
    rw [h2.at2 a] at hv0
    exact (by simpa [heldElem] using hv0 : v0 = V a ∧ ps = []).1
  subst hv0'
  have c4 : (w.setCell ⟨p, 1, none⟩ (.int .i32 1)).cell? ⟨p, 4, none⟩ = some (.map (some bt)) := R1.cell 4 _ rfl
  have hap := hr.apart
  have hsz1 : (w.setCell ⟨p, 1, none⟩ (.int .i32 1)).heap.size = w.heap.size := by simp [World.setCell]
  have hmem : ∀ s ∈ txs R a, s.length ≤ 1048576 := fun s hs => by
    obtain ⟨r, hr, rfl⟩ := List.mem_map.1 hs
    exact hR r (List.mem_filter.1 hr).1
  have hxl := txs_len R a
  have hov : ∃ aa cp, V a = .slice aa (txs R a).length cp ∧ ∀ j u, (txs R a)[j]? = some u → ∃ g, aa = some ⟨g, 0, none⟩ ∧ (w.setCell ⟨p, 1, none⟩ (.int .i32 1)).cell? ⟨g, j, none⟩ = some (.string ⟨u.toArray⟩) := by
    rcases (rows1 a).shape with ⟨e, q⟩ | ⟨g, cap, cur, e, _⟩
    · have : txs R a = [] := List.map_eq_nil_iff.1 q
      rw [this]
      exact ⟨none, 0, e, fun j u hu => by simp at hu⟩
    · refine ⟨_, cap, by simpa using e, fun j u hu => ⟨g, rfl, ?_⟩⟩
      have := rows1 a
      rw [e] at this
      exact this.cell j (strV u) (by simp [hu])
  obtain ⟨aa, cp, eV, hcell⟩ := hov
  rw [eV] at hlk
  obtain ⟨X, hX⟩ : ∃ X, Shut (X = txs R a) := ⟨_, rfl⟩
  rw [← show X = txs R a from hX.out] at hlk hcell hmem hxl ⊢
  have hfin : ∀ w2, Turn no (w.setCell ⟨p, 1, none⟩ (.int .i32 1)) w2 → Bk (w2.setCell ⟨p, 1, none⟩ (.int .i32 0)) p br bt V E R ∧ Turn (fun k => k = p) w (w2.setCell ⟨p, 1, none⟩ (.int .i32 0)) := fun w2 t => by
    refine ⟨⟨⟨D1, D2, Reg.free (R1.turn t (fun q => q)) (ownsMap_turn o1 t (fun q => q)) (ownsMap_turn o2 t (fun q => q)) hap, h2⟩, fun b => ?_, h.apart⟩, (T1.then_no t).setCell (p := ⟨p, 1, none⟩) (fun _ => rfl) _⟩
    exact ((rows1 b).turn_no t).turn ((Turn.refl (fun k => k = p) w2).setCell (p := ⟨p, 1, none⟩) (fun _ => rfl) _) (fun g hg q => (h.row_ne hg).1 q)
  have R1' : ∀ w2, Turn no (w.setCell ⟨p, 1, none⟩ (.int .i32 1)) w2 → Row w2 p (regC p br bt 1) 73 := fun w2 t => R1.turn t (fun q => q)
  have hpw : p < w.heap.size := h.lt (.inl rfl)
  clear h hr h2 o1 o2 rows1 hR T1 hv0 eV
  obtain ⟨n, hn⟩ : ∃ n, Shut (X.length = n) := ⟨_, rfl⟩
  rw [show X.length = n from hn.out] at hlk hxl
  have hfS : Shut (∀ w2, Turn no (w.setCell ⟨p, 1, none⟩ (.int .i32 1)) w2 → Bk (w2.setCell ⟨p, 1, none⟩ (.int .i32 0)) p br bt V E R ∧ Turn (fun k => k = p) w (w2.setCell ⟨p, 1, none⟩ (.int .i32 0))) := hfin
  have hRS : Shut (∀ w2, Turn no (w.setCell ⟨p, 1, none⟩ (.int .i32 1)) w2 → Row w2 p (regC p br bt 1) 73) := R1'
  have hszS : Shut ((w.setCell ⟨p, 1, none⟩ (.int .i32 1)).heap.size = w.heap.size) := hsz1
  clear hfin R1' R1 hap hsz1
  go_enter_defers Tryz.func10, Tryz.ntmps10
  go_wp2_with fail
  refine hm.mono ?_
  rintro e w' ⟨rfl, e1⟩
  have e1 := e1.symm
  subst e1
  go_wp2_with fail
  refine hl.mono ?_
  rintro e w1 ⟨rfl, e1⟩
  rw [← e1] at hcell hlk hfS hRS hszS c4
  clear e1 hl hm
  go_wp2_with fail
  go_loopw [5, 25] (fun v c wr => ∃ (i : Nat) (ts : List (Value × List UInt8)), i ≤ n ∧ c = .int .i64 i ∧ Ml w.heap.size wr v ts ∧ ts.map (·.2) = X.take i ∧ Turn no w1 wr) (fun _ c _ => n - (intOf c).toNat)
  case atStart => exact ⟨0, [], Nat.zero_le _, rfl, Ml.nil _ _, by simp, Turn.refl _ _⟩
  case round =>
    obtain ⟨i, ts, hi, rfl, hM, hts, T⟩ := hrel
    have htl : ts.length = i := by
      have := congrArg List.length hts
      rw [List.length_map, List.length_take, show X.length = n from hn.out] at this
      omega
    obtain ⟨ad, ln, cq, hvs⟩ := hM.own.shp
    subst hvs
    have hwz : w.heap.size ≤ wr.heap.size := by have := T.size; have : w1.heap.size = w.heap.size := hszS; omega
    by_cases hlt : i < n
    · have hlt' : (i : Int) < (n : Int) := by omega
      obtain ⟨s, hs⟩ : ∃ s, X[i]? = some s := ⟨X[i]'(by rw [hn.out]; exact hlt), List.getElem?_eq_getElem _⟩
      obtain ⟨g, rfl, cs⟩ := hcell i s hs
      have cs := T.keep cs (fun q => q)
      have hsl := hmem s (List.mem_of_getElem? hs)
      have hts1 : ts.length ≤ 1599289640401 := by omega
      have htl' : Shut (ts.length = i) := htl
      clear hcell hmem htl
      go_wp2_with (first
        | (obtain ⟨cap5, w5, hcv5, T5, s5, b5, br5⟩ := conv_row wr s hsl
           refine wpList_conv_run rfl (.tmp 30) rfl _ rfl hcv5 ?_
           have f5 : ∀ q, (Value.slice (some ⟨wr.heap.size, 0, none⟩) s.length cap5).ownBlock = some q → wr.heap.size ≤ q := fun q hq => by cases hq; exact Nat.le_refl _
           have OWN := (hM.own.turn_no T5).turn_no ((Turn.refl no w5).alloc (.cells #[.slice (some ⟨wr.heap.size, 0, none⟩) s.length cap5] 75))
           have SRC := src_oneT (P := Tryz.prog) (e := 75) Tryz.underlying78 w5 (.slice (some ⟨wr.heap.size, 0, none⟩) s.length cap5) rfl
           have PSH := fun {v6 w6} O6 G6 => hM.push (v' := v6) (w3 := w6) T5 b5 br5 f5 ((Turn.refl no w5).alloc (.cells #[.slice (some ⟨wr.heap.size, 0, none⟩) s.length cap5] 75)) O6 G6 hwz
           have TT5 := (T.then_no T5).alloc (.cells #[.slice (some ⟨wr.heap.size, 0, none⟩) s.length cap5] 75)
           have fv5 := hM.fv
           clear hcv5 s5 b5 br5 f5 T5 T hM
           generalize wr.heap.size = g5 at *)
        | (at_builtin; refine wpList_append_src rfl (.tmp 29) (.tmp 32) rfl Tryz.underlying78 info31 rfl (.slice ad ln cq) (ts.map (·.1)) rfl OWN (.slice (some ⟨w5.heap.size, 0, none⟩) 1 1) 1 [.slice (some ⟨g5, 0, none⟩) s.length cap5] rfl SRC (by rw [List.length_map]; omega) (by rw [List.length_map]; simp only [maxLen]; omega) ?_))
      intro v6 w6 O6 G6 _
      have M6 := PSH O6 G6
      have T6 : Turn no w1 w6 := (TT5.of_no.trans G6.turn (fun _ _ q => q)).mono (fun k hk q => by have := fv5 k q; have : w1.heap.size = w.heap.size := hszS; omega)
      obtain ⟨ad6, ln6, cq6, hv6⟩ := O6.shp
      subst hv6
      clear O6 G6 PSH TT5 OWN SRC cs
      go_wp2_with fail
      go_roundw
      case rel =>
        refine ⟨i + 1, ts ++ [(.slice (some ⟨g5, 0, none⟩) s.length cap5, s)], by omega, by go_num, M6, ?_, T6⟩
        rw [List.map_append, hts, List.take_add_one, hs]
        rfl
      case measure => simp [intOf]; omega
    · have hin : i = n := by omega
      subst hin
      have hlt' : ¬ (i : Int) < (i : Int) := by omega
      have htk : X.take i = X := by rw [← hn.out]; exact List.take_length
      rw [htk] at hts
      have RW := hRS.out wr T
      obtain ⟨B1, t1⟩ := hfS.out wr T
      have hpl : p < w.heap.size := hpw
      clear hcell hmem htl
      go_wp2_with fail
      refine leaves_cons (f := 40) (args := #[.pointer (some ⟨p, 1, none⟩)]) (by simp) (by simp [go_sem]) ?_
      refine (unlock_deferred muLib ⟨p, 1, none⟩ .returning _ (RW.cell 1 _ rfl) (RW.frozen 1)).mono ?_
      rintro e u' w'' ⟨rfl, rfl, rfl⟩
      exact ⟨_, results_tmp rfl _ _ _, _, rfl, ts, hM.turn ((Turn.refl (fun k => k = p) wr).setCell (p := ⟨p, 1, none⟩) (fun _ => rfl) _) (fun g hg q => by omega), hts, B1, t1⟩
end
end Go.Proofs.YtmghliakheniiaaGreatDoor


/- same: two lists of messages. -/
namespace Go.Proofs.YtmghliakheniiaaGreatDoor
open Go.RowKit Go.Maps Go.MuLone
set_option linter.unusedVariables false

/-- A slice of messages, wherever it lies. -/
def Msl (w : World) (v : Value) (ts : List (Value × List UInt8)) : Prop :=
  ∃ aa cp, v = .slice aa ts.length cp ∧ ts.length ≤ 9223372036854775807 ∧ ∀ j t, ts[j]? = some t → ∃ g, aa = some ⟨g, 0, none⟩ ∧ w.cell? ⟨g, j, none⟩ = some t.1 ∧ Bs w t.1 t.2 ∧ j < cp
theorem Msl.turn_no {w w' : World} {v : Value} {ts : List (Value × List UInt8)} (h : Msl w v ts) (t : Turn no w w') : Msl w' v ts := by
  obtain ⟨aa, cp, e, hl, hc⟩ := h
  refine ⟨aa, cp, e, hl, fun j x hx => ?_⟩
  obtain ⟨g, e1, c, b, hj⟩ := hc j x hx
  exact ⟨g, e1, t.keep c (fun q => q), b.turn_no t, hj⟩
theorem Ml.msl {old : Nat} {w : World} {v : Value} {ts : List (Value × List UInt8)} (h : Ml old w v ts) : Msl w v ts := by
  rcases h.own.shape with ⟨rfl, q⟩ | ⟨g, cap, cur, rfl, _, h1, h2, _⟩
  · have : ts = [] := List.map_eq_nil_iff.1 q
    subst this
    exact ⟨none, 0, rfl, by simp, fun j t ht => by simp at ht⟩
  · rw [List.length_map] at h1
    refine ⟨_, cap, by simp, by simp only [maxLen] at h2; omega, fun j t ht => ⟨g, rfl, h.own.cell j t.1 (by simp [ht]), (h.each t (List.mem_of_getElem? ht)).1, ?_⟩⟩
    have := (List.getElem?_eq_some_iff.1 ht).1
    omega
theorem Msl.take {w : World} {aa : Option Addr} {n cp : Nat} {ts : List (Value × List UInt8)} (h : Msl w (.slice aa n cp) ts) (m : Nat) (hm : m ≤ ts.length) : Msl w (.slice aa m cp) (ts.take m) := by
  obtain ⟨aa', cp', e, hl, hc⟩ := h
  cases e
  refine ⟨aa, cp, by rw [List.length_take, Nat.min_eq_left hm], by rw [List.length_take]; omega, fun j t ht => hc j t ?_⟩
  rw [List.getElem?_take] at ht
  split at ht
  · exact ht
  · cases ht

end Go.Proofs.YtmghliakheniiaaGreatDoor

