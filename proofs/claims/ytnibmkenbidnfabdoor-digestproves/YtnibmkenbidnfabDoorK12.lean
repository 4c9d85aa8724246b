/- Two rows of texts side by side; list. -/
import Derived.Test.YtnibmkenbidnfabDoorK1
namespace Go.Proofs.YtnibmkenbidnfabDoor
open Go.RowKit
set_option linter.unusedVariables false

theorem info35 : (Tryd.prog.info? 35).map (fun i => (i.zero, i.size, i.bytes)) = some (some (.slice none 0 0), 1, 24) := by kernel_rfl
theorem src_one {P : Program} {tx e' e : TypeId} (hk : P.underlying tx = some (.slice e')) (w : World) (u : Value) (hu : u.oneCell' = true) : Src P 1 tx (.slice (some ⟨w.heap.size, 0, none⟩) 1 1) 1 [u] (w.alloc (.cells #[u] e)) :=
  Src.ofSlice _ hk _ _ _ _ (by simp) (fun j x hx => by
    have := (Row.new w #[u] e).cell j x (by simpa using hx)
    simpa [Addr.add_lit] using this) (by intro x hx; simp at hx; subst hx; exact hu)
theorem src_pair {P : Program} {tx e' e : TypeId} (hk : P.underlying tx = some (.slice e')) (w : World) (u v : Value) (hu : u.oneCell' = true) (hv : v.oneCell' = true) : Src P 1 tx (.slice (some ⟨w.heap.size, 0, none⟩) 2 2) 2 [u, v] (w.alloc (.cells #[u, v] e)) :=
  Src.ofSlice _ hk _ _ _ _ (by simp) (fun j x hx => by
    have := (Row.new w #[u, v] e).cell j x (by simpa using hx)
    simpa [Addr.add_lit] using this) (by intro x hx; simp at hx; rcases hx with rfl | rfl <;> assumption)
theorem own_ne {w : World} {e e' : TypeId} {v v' : Value} {xs xs' : List Value} (h : Own w e v xs) (h' : Own w e' v' xs') (he : e ≠ e') : ∀ g, v.ownBlock = some g → ¬ (v'.ownBlock = some g) := by
  intro g hg hg'
  rcases h.shape with ⟨rfl, _⟩ | ⟨g1, c1, u1, rfl, o1, _⟩
  · cases hg
  rcases h'.shape with ⟨rfl, _⟩ | ⟨g2, c2, u2, rfl, o2, _⟩
  · cases hg'
  have q1 : g1 = g := by simpa [Value.ownBlock] using hg
  have q2 : g2 = g := by simpa [Value.ownBlock] using hg'
  subst q1
  subst q2
  rw [o1] at o2
  cases o2
  exact he rfl
/-- Two rows of texts in new memory: each with two marks behind it, and each as it is. -/
structure Ro (B : Nat) (w : World) (vf vl : Value) (l : Its) (fs ls : List Value) : Prop where
  of : Own w 35 vf fs
  ol : Own w 35 vl ls
  ne : ∀ g, vf.ownBlock = some g → ¬ vl.ownBlock = some g
  bf : ∀ g, vf.ownBlock = some g → B ≤ g
  bl : ∀ g, vl.ownBlock = some g → B ≤ g
  tx : ∀ (j : Nat) (x : Value × List UInt8), l[j]? = some x → ∃ (g cap : Nat), fs[j]? = some (.slice (some ⟨g, 0, none⟩) (x.2.length + 2) cap) ∧ ls[j]? = some (.slice (some ⟨g, 0, none⟩) x.2.length cap) ∧ Own w 5 (.slice (some ⟨g, 0, none⟩) (x.2.length + 2) cap) ((x.2 ++ [201, 202]).map bv) ∧ B ≤ g
theorem Ro.nil (B : Nat) (w : World) : Ro B w (.slice none 0 0) (.slice none 0 0) [] [] [] :=
  ⟨Own.nil _ _, Own.nil _ _, (fun g q => by cases q), (fun g q => by cases q), (fun g q => by cases q), (fun j x q => by simp at q)⟩
theorem Ro.turn_no {B : Nat} {w w' : World} {vf vl : Value} {l : Its} {fs ls : List Value} (h : Ro B w vf vl l fs ls) (t : Turn no w w') : Ro B w' vf vl l fs ls :=
  ⟨h.of.turn_no t, h.ol.turn_no t, h.ne, h.bf, h.bl, fun j x q => by
    obtain ⟨g, cap, h1, h2, h3, h4⟩ := h.tx j x q
    exact ⟨g, cap, h1, h2, h3.turn_no t, h4⟩⟩
theorem at_app {xs ys : List Value} {j : Nat} {v : Value} (h : xs[j]? = some v) : (xs ++ ys)[j]? = some v := by
  have hj := (List.getElem?_eq_some_iff.1 h).1
  rw [List.getElem?_append_left hj]
  exact h
theorem Ro.growF {B : Nat} {w w' : World} {vf vl vf' : Value} {l : Its} {fs ls ns : List Value} (h : Ro B w vf vl l fs ls) (hB : B ≤ w.heap.size) (O : Own w' 35 vf' (fs ++ ns)) (G : Grew w w' vf vf') : Ro B w' vf' vl l (fs ++ ns) ls := by
  refine ⟨O, h.ol.turn G.turn (fun g hg q => h.ne g q hg), fun g hg hl => ?_, G.fresh h.bf hB, h.bl, fun j x q => ?_⟩
  · rcases G.blk with e | ⟨g', e, h1, h2⟩
    · exact h.ne g (by rw [← e]; exact hg) hl
    · have := h.ol.lt hl
      rw [e] at hg
      cases hg
      omega
  · obtain ⟨g, cap, h1, h2, h3, h4⟩ := h.tx j x q
    exact ⟨g, cap, at_app h1, h2, h3.turn G.turn (fun g' hg' q' => own_ne h.of h3 (by decide) g' q' hg'), h4⟩
theorem Ro.growL {B : Nat} {w w' : World} {vf vl vl' : Value} {l : Its} {fs ls ns : List Value} (h : Ro B w vf vl l fs ls) (hB : B ≤ w.heap.size) (O : Own w' 35 vl' (ls ++ ns)) (G : Grew w w' vl vl') : Ro B w' vf vl' l fs (ls ++ ns) := by
  refine ⟨h.of.turn G.turn (fun g hg q => h.ne g hg q), O, fun g hg hl => ?_, h.bf, G.fresh h.bl hB, fun j x q => ?_⟩
  · rcases G.blk with e | ⟨g', e, h1, h2⟩
    · exact h.ne g hg (by rw [← e]; exact hl)
    · have := h.of.lt hg
      rw [e] at hl
      cases hl
      omega
  · obtain ⟨g, cap, h1, h2, h3, h4⟩ := h.tx j x q
    exact ⟨g, cap, h1, at_app h2, h3.turn G.turn (fun g' hg' q' => own_ne h.ol h3 (by decide) g' q' hg'), h4⟩
theorem Ro.more {B : Nat} {w : World} {vf vl : Value} {l : Its} {fs ls : List Value} {x : Value × List UInt8} (h : Ro B w vf vl l fs ls) {g cap : Nat} (h1 : fs[l.length]? = some (.slice (some ⟨g, 0, none⟩) (x.2.length + 2) cap)) (h2 : ls[l.length]? = some (.slice (some ⟨g, 0, none⟩) x.2.length cap)) (h3 : Own w 5 (.slice (some ⟨g, 0, none⟩) (x.2.length + 2) cap) ((x.2 ++ [201, 202]).map bv)) (h4 : B ≤ g) : Ro B w vf vl (l ++ [x]) fs ls :=
  ⟨h.of, h.ol, h.ne, h.bf, h.bl, fun j y q => by
    by_cases hj : j < l.length
    · rw [List.getElem?_append_left hj] at q
      exact h.tx j y q
    · have hj2 := (List.getElem?_eq_some_iff.1 q).1
      simp at hj2
      have e : j = l.length := by omega
      subst e
      simp at q
      subst q
      exact ⟨g, cap, h1, h2, h3, h4⟩⟩
theorem mark_bs (w : World) (A : Array Value) (hA : A = #[.int .u8 109, .int .u8 97, .int .u8 114, .int .u8 107]) : Bs (mark w A) (.slice (some ⟨w.heap.size, 0, none⟩) 4 4) [109, 97, 114, 107] := by
  subst hA
  refine Or.inr ⟨⟨w.heap.size, 0, none⟩, 4, rfl, by simp, by simp [maxLen], fun j u hu => ?_⟩
  rw [Addr.add_lit, Nat.zero_add, mark_cell]
  have hj : j = 0 ∨ j = 1 ∨ j = 2 ∨ j = 3 := by have := (List.getElem?_eq_some_iff.1 hu).1; simp at this; omega
  rcases hj with rfl | rfl | rfl | rfl <;> (simp at hu; subst hu; rfl)
/-- What list makes, up to a place. -/
structure Lp (w : World) (l : Its) (i : Nat) (vf vl : Value) (wr : World) (fs ls : List Value) : Prop where
  ro : Ro w.heap.size wr vf vl (l.take i) fs ls
  lf : fs.length = i
  ll : ls.length = i
  turn : Turn no w wr
/-- What list leaves. -/
def Lt (w : World) (l : Its) (e : Ending) (w' : World) : Prop := ∃ (vf vl : Value) (fs ls : List Value) (m1 m2 : Value), e = .returned (.tuple #[vf, vl]) ∧ Ro w.heap.size w' vf vl l fs (ls ++ [m1, m2]) ∧ fs.length = l.length ∧ ls.length = l.length ∧ Bs w' m1 [109, 97, 114, 107] ∧ Bs w' m2 [109, 97, 114, 107] ∧ Turn no w w'
theorem text_block {w : World} {v : Value} {bs : List UInt8} (h : Own w 5 v ((bs ++ [201, 202]).map bv)) : ∃ g cap, v = .slice (some ⟨g, 0, none⟩) (bs.length + 2) cap ∧ bs.length + 2 ≤ cap ∧ cap ≤ maxLen := by
  rcases h.shape with ⟨_, q⟩ | ⟨g, cap, cur, q, _, h1, h2, _⟩
  · simp at q
  · have e : ((bs ++ [201, 202]).map bv).length = bs.length + 2 := by simp
    rw [e] at q h1
    exact ⟨g, cap, q, h1, h2⟩
set_option maxRecDepth 100000 in
set_option maxHeartbeats 8000000 in
theorem list13 (w : World) (l : Its) (a : Option Addr) (ca : Nat) (hA : BlAt w a ca l) (hsz : ∀ x ∈ l, x.2.length + 2 ≤ 140737488355328) (hn : (l.length + 2) * 24 ≤ 140737488355328) : Calls Tryd.prog 13 #[.slice a l.length ca] w (Lt w l) := by
  have HA := shut hA
  have HS := shut hsz
  obtain ⟨n, hln⟩ : ∃ n, Hid (l.length = n) := ⟨_, rfl⟩
  have hln' := hln.out
  rw [hln'] at hn ⊢
  clear hA hsz hln'
  go_enter Tryd.func13, Tryd.ntmps13
  go_wp2_with fail
  go_loopw [4, 5, 6] (fun vf vl c wr => ∃ (i : Nat) (fs ls : List Value), i ≤ n ∧ c = .int .i64 i ∧ Shut (Lp w l i vf vl wr fs ls)) (fun _ _ c _ => n - (intOf c).toNat)
  case atStart => exact ⟨0, [], [], by omega, rfl, ⟨Ro.nil _ _, rfl, rfl, Turn.refl _ _⟩⟩
  case round =>
    obtain ⟨i, fs, ls, hi, rfl, HL⟩ := hrel
    obtain ⟨fa, fn, fc, rfl⟩ := HL.out.ro.of.form
    obtain ⟨la, ln, lc, rfl⟩ := HL.out.ro.ol.form
    by_cases hlt : i < n
    · obtain ⟨⟨xv, xb⟩, hx⟩ : ∃ x, l[i]? = some x := ⟨l[i]'(by rw [hln.out]; exact hlt), List.getElem?_eq_getElem _⟩
      obtain ⟨b, o, rfl, hP⟩ := HA.out.pcs.resolve_left (by rintro rfl; simp at hx)
      have HP := shut hP
      obtain ⟨c0, b0⟩ := (hP.turn_no HL.out.turn) i _ hx
      have hxl : xb.length + 2 ≤ 140737488355328 := HS.out _ (List.mem_of_getElem? hx)
      have hr := roomy_any wr xv xb b0 hxl
      obtain ⟨xa, xc, hxs⟩ := b0.slice
      obtain ⟨m, hm⟩ : ∃ m, Hid (xb.length = m) := ⟨_, rfl⟩
      rw [hm.out] at hxs
      have hxs : xv = .slice xa m xc := hxs
      subst hxs
      have HX := shut hx
      have Q1 : Shut ((fs.length + 1) * 24 ≤ 140737488355328) := by show _ ≤ _; rw [HL.out.lf]; omega
      have Q2 : Shut (fs.length + 1 ≤ maxLen) := by show _ ≤ _; rw [HL.out.lf]; simp only [maxLen]; omega
      have Q3 : Shut ((ls.length + 1) * 24 ≤ 140737488355328) := by show _ ≤ _; rw [HL.out.ll]; omega
      have Q4 : Shut (ls.length + 1 ≤ maxLen) := by show _ ≤ _; rw [HL.out.ll]; simp only [maxLen]; omega
      have hlt' : (i : Int) < (n : Int) := by omega
      simp only at c0
      clear hP hx b0 hxl
      go_upto_region 7 with (go_at_call 32; refine hr.mono ?_; clear hr; rintro e w6 ⟨v6, rfl, O6, f6, t6⟩)
      obtain ⟨g, cp, rfl, hcp, hcm⟩ := text_block O6
      have T6 := HL.out.turn.then_no t6
      have hg6 : Shut (w.heap.size ≤ g) := by have := f6 g rfl; have := HL.out.turn.size; show _ ≤ _; omega
      have hmc : m ≤ cp := by rw [← hm.out]; omega
      have hmc' : (m : Int) ≤ (cp : Int) := by omega
      obtain ⟨m2, hm2⟩ : ∃ m2, Hid (xb.length + 2 = m2) := ⟨_, rfl⟩
      rw [hm2.out] at O6 hcp ⊢
      have R6 := HL.out.ro.turn_no t6
      have S7 := src_one (e := 35) Tryd.underlying22 w6 (.slice (some ⟨g, 0, none⟩) m2 cp) rfl
      have ta := (Turn.refl no w6).alloc (.cells #[.slice (some ⟨g, 0, none⟩) m2 cp] 35)
      have Ra := R6.turn_no ta
      have Oa := O6.turn_no ta
      have Ta := T6.then_no ta
      have hBa := Ta.size
      clear R6 f6 t6 c0 ta hcp hcm O6
      go_upto_region 8 with (at_builtin; refine wpList_append_src rfl (.tmp 19) (.tmp 21) rfl Tryd.underlying22 info35 rfl _ fs rfl Ra.of _ 1 [.slice (some ⟨g, 0, none⟩) m2 cp] rfl S7 Q1.out Q2.out ?_; intro v7 w7 O7 G7 _)
      have Rb := Ra.growF hBa O7 G7
      have Ob := Oa.turn G7.turn (fun g' hg' q' => own_ne Ra.of Oa (by decide) g' q' hg')
      have T7 := Ta.fresh G7 Ra.bf
      obtain ⟨c7, _⟩ := (HP.out.turn_no T7) i _ HX.out
      simp only at c7
      obtain ⟨fa', fn', fc', rfl⟩ := O7.form
      have S8 := src_one (e := 35) Tryd.underlying22 w7 (.slice (some ⟨g, 0, none⟩) m cp) rfl
      have tc := (Turn.refl no w7).alloc (.cells #[.slice (some ⟨g, 0, none⟩) m cp] 35)
      have Rc := Rb.turn_no tc
      have Oc := Ob.turn_no tc
      have Tc := T7.then_no tc
      have hBc := Tc.size
      clear Ra Oa Ta hBa O7 G7 Rb Ob tc S7
      go_wp2_with (at_builtin; refine wpList_append_src rfl (.tmp 23) (.tmp 31) rfl Tryd.underlying22 info35 rfl _ ls rfl Rc.ol _ 1 [.slice (some ⟨g, 0, none⟩) m cp] rfl S8 Q3.out Q4.out ?_; intro v8 w8 O8 G8 _; have Rd := Rc.growL hBc O8 G8; have Od := Oc.turn G8.turn (fun g' hg' q' => own_ne Rc.ol Oc (by decide) g' q' hg'); have T8 := Tc.fresh G8 Rc.bl; obtain ⟨la', ln', lc', rfl⟩ := O8.form; clear Rc Oc Tc hBc S8 G8 O8)
      have HN : Shut (Lp w l (i + 1) (.slice fa' fn' fc') (.slice la' ln' lc') w8 (fs ++ [.slice (some ⟨g, 0, none⟩) m2 cp]) (ls ++ [.slice (some ⟨g, 0, none⟩) m cp])) := by
        refine ⟨?_, by simp [HL.out.lf], by simp [HL.out.ll], T8⟩
        rw [List.take_add_one, HX.out]
        have hti : (l.take i).length = i := by rw [List.length_take, hln.out]; omega
        refine Rd.more (x := (.slice xa m xc, xb)) (g := g) (cap := cp) ?_ ?_ ?_ hg6.out
        · rw [hti, ← HL.out.lf, hm2.out]; simp
        · rw [hti, ← HL.out.ll, hm.out]; simp
        · rw [hm2.out]; exact Od
      clear Rd Od T8
      go_roundw
      case rel => exact ⟨i + 1, _, _, by omega, by go_num, HN⟩
      case measure => simp [intOf]; omega
    · have hlt' : ¬ (i : Int) < (n : Int) := by omega
      have Hin : Shut (i = n) := by show _ = _; omega
      obtain ⟨A, hAA⟩ : ∃ A : Array Value, A = #[.int .u8 109, .int .u8 97, .int .u8 114, .int .u8 107] := ⟨_, rfl⟩
      have k1 := conv22 wr A 4 4
      have M1 := mark_bs wr A hAA
      have t1 := mark_turn wr A
      have z1 : (mark wr A).heap.size = wr.heap.size + 1 := by simp [mark, World.freeze]
      generalize mark wr A = wa at *
      have k2 := conv22 wa A 4 4
      have M2 := mark_bs wa A hAA
      have t2 := mark_turn wa A
      have M1 := M1.turn_no t2
      have t3 := t1.then_no t2
      generalize mark wa A = wb at *
      have S9 := src_pair (P := Tryd.prog) (e := 35) Tryd.underlying22 wb (.slice (some ⟨wr.heap.size, 0, none⟩) 4 4) (.slice (some ⟨wa.heap.size, 0, none⟩) 4 4) rfl rfl
      have tb := (Turn.refl no wb).alloc (.cells #[.slice (some ⟨wr.heap.size, 0, none⟩) 4 4, .slice (some ⟨wa.heap.size, 0, none⟩) 4 4] 35)
      have M1 := M1.turn_no tb
      have M2 := M2.turn_no tb
      have tc := t3.then_no tb
      have HZ := shut z1
      have R9 := HL.out.ro.turn_no tc
      have T9 := HL.out.turn.then_no tc
      have hB9 := T9.size
      have Q5 : Shut ((ls.length + 2) * 24 ≤ 140737488355328) := by show _ ≤ _; rw [HL.out.ll, Hin.out]; exact hn
      have Q6 : Shut (ls.length + 2 ≤ maxLen) := by show _ ≤ _; rw [HL.out.ll, Hin.out]; simp only [maxLen]; omega
      clear t1 t2 t3 tb tc z1
      subst hAA
      go_wp2_with (at_builtin; refine wpList_append_src rfl (.tmp 33) (.tmp 38) rfl Tryd.underlying22 info35 rfl _ ls rfl R9.ol _ 2 [.slice (some ⟨wr.heap.size, 0, none⟩) 4 4, .slice (some ⟨wa.heap.size, 0, none⟩) 4 4] rfl S9 Q5.out Q6.out ?_; intro v9 w9 O9 G9 _; have Rx := R9.growL hB9 O9 G9; have T10 := T9.fresh G9 R9.bl; have hgt := G9.turn; obtain ⟨la', ln', lc', rfl⟩ := O9.form)
      go_ret2
      have e : l.take i = l := by rw [Hin.out, ← hln.out, List.take_length]
      rw [e] at Rx
      refine ⟨_, _, fs, ls, _, _, rfl, Rx, by rw [HL.out.lf, Hin.out, hln.out], by rw [HL.out.ll, Hin.out, hln.out], M1.turn hgt ?_, M2.turn hgt ?_, T10⟩
      · intro g hg q
        have q1 : wr.heap.size = g := by simpa [Value.ownBlock] using hg
        have := HL.out.ro.ol.lt q
        omega
      · intro g hg q
        have q1 : wa.heap.size = g := by simpa [Value.ownBlock] using hg
        have := HL.out.ro.ol.lt q
        have := HZ.out
        omega
end Go.Proofs.YtnibmkenbidnfabDoor
