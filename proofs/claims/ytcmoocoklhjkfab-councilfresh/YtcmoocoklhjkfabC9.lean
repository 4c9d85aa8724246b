/- plain and New of the document. -/
import Derived.Test.YtcmoocoklhjkfabC8
import Derived.Deep.RegionHeld3
namespace Go.Proofs.Ytcmoocoklhjkfab
open Go.RowKit
set_option linter.unusedVariables false

theorem wp_append_run {P : Program} {o : Oper} {a : Act} {w : World} {K : Act → World → Prop} {Q : Exit → Act → World → Prop} (s x : Operand) {t tx : TypeId}
    (ho : o.op = .call { callee := .builtin .append, args := #[s, x], argTypes := #[t, tx] }) (v xv : Value) (hs : a.eval s = v) (hx : a.eval x = xv) {v' : Value} {w' : World}
    (hr : (Builtin.append_ #[t, tx] o.type #[v, xv]).run P w = .ok v' w') (h : K (a.put o.dst v') w') : Oper.wp P o a w K Q := by
  unfold Oper.wp execOp
  simp only [ho, resolve, invoke, builtin, Sem.run_bind, Sem.run_pure, Result.andThen_ok, List.map_toArray, List.map_cons, List.map_nil, hs, hx, hr]
  exact h

theorem src_mb (w W : World) (m : Mb) (T : Turn no (w.alloc (.cells #[.int .u64 m.ad, .int .u64 m.pw, .int .i64 m.pr] 55)) W) : Src Try.prog 3 22 (.slice (some ⟨w.heap.size, 0, none⟩) 1 1) 1 (flat [m]) W := by
  refine Src.ofSlice _ Try.underlying22 _ _ _ _ (flat_len [m]) (fun j u hu => ?_) (flat_one [m])
  refine T.keep ?_ (fun q => q)
  rw [Addr.add_lit, cell_of_row _ w.heap.size (0 + j) _ 55 (0, 0) (heap_alloc_new w _)]
  rw [Nat.zero_add]
  simpa [flat, mbC] using hu
theorem zeroed_take_succ (l : List Mb) (k : Nat) (m : Mb) (h : l[k]? = some m) : zeroed (l.take (k + 1)) = zeroed (l.take k) ++ [{ m with pr := 0 }] := by
  rw [List.take_add_one, h]
  simp [zeroed]

set_option maxRecDepth 100000 in
set_option maxHeartbeats 1000000 in
theorem plain37 (w : World) (v : Value) (l : List Mb) (h : Ms w v l) (hb : l.length * 24 ≤ 140737488351232) : Calls Try.prog 29 #[v] w fun e w' =>
    ∃ u, e = .returned u ∧ OwnN w' 55 3 u l.length (flat (zeroed l)) ∧ (∀ g, u.ownBlock = some g → w.heap.size ≤ g) ∧ Turn no w w' := by
  obtain ⟨ad, cp, rfl, h⟩ := h
  have hcells := h.cells
  have hle : l.length ≤ 9223372036854775807 := by have := h.le; have := h.cap; simp only [maxLen] at this; omega
  clear h
  obtain ⟨n, hn⟩ : ∃ n, Hid (l.length = n) := ⟨_, rfl⟩
  have hn' : l.length = n := hn.out
  rw [hn'] at hb hle ⊢
  clear hn'
  go_enter Try.func29, Try.ntmps29
  go_wp2_with fail
  go_loopw [3, 4] (fun u c wr => ∃ k : Nat, k ≤ n ∧ c = .int .i64 k ∧ OwnN wr 55 3 u k (flat (zeroed (l.take k))) ∧ (∀ g, u.ownBlock = some g → w.heap.size ≤ g) ∧ Turn no w wr) (fun _ c _ => n - (intOf c).toNat)
  case atStart => exact ⟨0, by omega, rfl, OwnN.nil _ _ _, fun g q => (by cases q), Turn.refl _ _⟩
  case round =>
    obtain ⟨k, hk, rfl, O, hf, T⟩ := hrel
    obtain ⟨ua, uc, rfl, _⟩ := O.form
    by_cases hlt : k < n
    · obtain ⟨m, hm⟩ : ∃ m, l[k]? = some m := ⟨l[k]'(by rw [hn.out]; exact hlt), List.getElem?_eq_getElem _⟩
      obtain ⟨b, off, rfl, c0, c1, c2⟩ := hcells k m hm
      have c0 := T.keep c0 (fun q => q)
      have c1 := T.keep c1 (fun q => q)
      have hlt' : (k : Int) < (n : Int) := by omega
      have HZ : Hid (zeroed (l.take (k + 1)) = zeroed (l.take k) ++ [{ m with pr := 0 }]) := zeroed_take_succ l k m hm
      have hbw : b < w.heap.size := World.block_lt_of_cell? w _ c2
      have hX : ∀ W, Turn (fun g => w.heap.size ≤ g) wr W → ∀ (o : Nat) (u : Value), wr.cell? ⟨b, o, none⟩ = some u → W.cell? ⟨b, o, none⟩ = some u := fun W hW o u hu => hW.keep hu (fun q => by have : w.heap.size ≤ b := q; omega)
      clear hcells hm c2
      go_wp2_with fail
      refine wp_region_held_drew (S := fun W => Turn (fun g => w.heap.size ≤ g) wr W) (by kernel_rfl) (Turn.refl _ wr).drew (fun hHeld => ?_)
      refine' wpAnyH_take (i := 0) (v := .slice ua k uc) rfl (by kernel_rfl) (by kernel_rfl) (by kernel_rfl) (fun _ _ _ h => h) (Or.inl ⟨by kernel_rfl, fun W hW => ?y1⟩) hHeld ?r1
      · go_simp
      refine' wpAnyH_take (i := 1) (v := .slice (some ⟨b, off, none⟩) n cp) rfl (by kernel_rfl) (by kernel_rfl) (by kernel_rfl) (fun _ _ _ h => h) (Or.inl ⟨by kernel_rfl, fun W hW => ?y2⟩) hHeld ?r2
      · go_simp
      refine' wpAnyH_take (i := 2) (v := .int .i64 k) rfl (by kernel_rfl) (by kernel_rfl) (by kernel_rfl) (fun _ _ _ h => h) (Or.inl ⟨by kernel_rfl, fun W hW => ?y3⟩) hHeld ?r3
      · go_simp
      refine' wpAnyH_take (i := 3) (v := .pointer (some ⟨b, off + k * 3, none⟩)) rfl (by kernel_rfl) (by kernel_rfl) (by kernel_rfl) (fun _ _ _ h => h) (Or.inl ⟨by kernel_rfl, fun W hW => ?y4⟩) hHeld ?r4
      · go_simp
      refine' wpAnyH_take (i := 4) (v := .pointer (some ⟨b, off + k * 3, none⟩)) rfl (by kernel_rfl) (by kernel_rfl) (by kernel_rfl) (fun _ _ _ h => h) (Or.inl ⟨by kernel_rfl, fun W hW => ?y5⟩) hHeld ?r5
      · go_simp
      refine' wpAnyH_take (i := 5) (v := .int .u64 m.ad) rfl (by kernel_rfl) (by kernel_rfl) (by kernel_rfl) (fun _ _ _ h => h) (Or.inl ⟨by kernel_rfl, fun W hW => ?y6⟩) hHeld ?r6
      · have c := hX W hW _ _ c0
        go_simp
      refine' wpAnyH_take (i := 6) (v := .slice (some ⟨b, off, none⟩) n cp) rfl (by kernel_rfl) (by kernel_rfl) (by kernel_rfl) (fun _ _ _ h => h) (Or.inl ⟨by kernel_rfl, fun W hW => ?y7⟩) hHeld ?r7
      · go_simp
      refine' wpAnyH_take (i := 7) (v := .int .i64 k) rfl (by kernel_rfl) (by kernel_rfl) (by kernel_rfl) (fun _ _ _ h => h) (Or.inl ⟨by kernel_rfl, fun W hW => ?y8⟩) hHeld ?r8
      · go_simp
      refine' wpAnyH_take (i := 8) (v := .pointer (some ⟨b, off + k * 3, none⟩)) rfl (by kernel_rfl) (by kernel_rfl) (by kernel_rfl) (fun _ _ _ h => h) (Or.inl ⟨by kernel_rfl, fun W hW => ?y9⟩) hHeld ?r9
      · go_simp
      refine' wpAnyH_take (i := 9) (v := .pointer (some ⟨b, off + k * 3 + 1, none⟩)) rfl (by kernel_rfl) (by kernel_rfl) (by kernel_rfl) (fun _ _ _ h => h) (Or.inl ⟨by kernel_rfl, fun W hW => ?y10⟩) hHeld ?r10
      · go_simp
      refine' wpAnyH_take (i := 10) (v := .int .u64 m.pw) rfl (by kernel_rfl) (by kernel_rfl) (by kernel_rfl) (fun _ _ _ h => h) (Or.inl ⟨by kernel_rfl, fun W hW => ?y11⟩) hHeld ?r11
      · have c := hX W hW _ _ c1
        go_simp
      refine' wpAnyH_take (i := 11) (v := .agg #[.int .u64 m.ad, .int .u64 m.pw, .int .i64 0]) rfl (by kernel_rfl) (by kernel_rfl) (by kernel_rfl) (fun _ _ _ h => h) (Or.inl ⟨by kernel_rfl, fun W hW => ?y12⟩) hHeld ?r12
      · go_simp
      refine wpAnyH_ready (rs := [12]) (by kernel_rfl) (by simp) ?_
      refine AllReadyH.cons rfl (fun K hK => ?_) AllReadyH.nil
      go_simp
      have TA : Turn no wr ((wr.alloc (.cells #[.int .u64 m.ad, .int .u64 m.pw, .int .i64 0] 55)).drew) := ((Turn.refl no wr).alloc _).drew
      obtain ⟨v2, w2, hap, O2, G2⟩ := run_append_srcN (P := Try.prog) Try.underlying22 info44 rfl (by decide) 22 _ _ k _ (O.turn_no TA) _ 1 _ (src_mb wr _ { m with pr := 0 } (Turn.refl no _).drew) (by omega) (by simp only [maxLen]; omega)
      have T2 : Turn no w w2 := ((T.then_no TA).of_no.trans G2.turn (fun _ _ q => q)).mono (fun g hg q => by have := hf g q; omega)
      have f2 := G2.fresh hf (by have := T.size; have := TA.size; omega)
      have TW : Turn (fun g => w.heap.size ≤ g) wr w2 := (TA.of_no.trans G2.turn (fun g hg q => hf g q))
      rw [← flat_append, ← HZ.out] at O2
      refine hK.out _ _ (TA.of_no) (fun hHeld => ?_)
      clear hK
      refine wpAnyH_ready (rs := [13]) (by kernel_rfl) (by simp) ?_
      refine AllReadyH.cons rfl (fun K hK => ?_) AllReadyH.nil
      rw [if_pos (by rfl)]
      refine wp_append_run _ _ rfl _ _ rfl rfl hap ?_
      refine hK.out _ _ TW (fun hHeld => ?_)
      clear hK
      refine wpAnyH_ready (rs := [14]) (by kernel_rfl) (by simp) ?_
      refine AllReadyH.cons rfl (fun K hK => ?_) AllReadyH.nil
      obtain ⟨a2, p2, e2, _⟩ := O2.form
      subst e2
      go_simp
      refine hK.out _ _ TW (fun hHeld => ?_)
      clear hK
      refine wpAnyH_done (by kernel_rfl) ?_ _
      clear O hf T hap G2 TW TA hHeld c0 c1
      go_wp2_with fail
      go_roundw
      case rel => exact ⟨k + 1, by omega, by go_num, O2, f2, T2⟩
      case measure => simp [intOf]; omega
    · have hkn : k = n := by omega
      subst hkn
      have hlt' : ¬ (k : Int) < (k : Int) := by omega
      rw [List.take_of_length_le (by rw [hn.out]; exact Nat.le_refl _)] at O
      go_wp2_with fail
      go_ret
      exact ⟨_, rfl, O, hf, T⟩

theorem OwnN.ms {w : World} {v : Value} {l : List Mb} {n : Nat} (h : OwnN w 55 3 v n (flat l)) (hn : n = l.length) (hok : ∀ m ∈ l, m.ok) : Ms w v l := by
  by_cases h0 : 0 < n
  · obtain ⟨g, cap, e, R⟩ := h.rw hn h0 hok
    exact ⟨_, cap, by rw [e, hn], R.at⟩
  · have hl : l = [] := List.eq_nil_of_length_eq_zero (by omega)
    obtain ⟨a, cap, e, _, h1, h2, h3⟩ := h.form
    subst hl
    exact ⟨a, cap, by rw [e, hn], by simp, h3, hok, fun j m hm => by simp at hm⟩
theorem zeroed_ok {l : List Mb} (h : ∀ m ∈ l, m.ok) : ∀ m ∈ zeroed l, m.ok := fun m hm => by
  obtain ⟨x, hx, rfl⟩ := List.mem_map.1 hm
  have := h x hx
  exact ⟨this.1, this.2.1, by simp, by simp⟩
theorem Ms.ok {w : World} {v : Value} {l : List Mb} (h : Ms w v l) : ∀ m ∈ l, m.ok := by
  obtain ⟨_, _, _, h⟩ := h
  exact h.ok
/-- What is known of a block of one cell that the call has made. -/
structure Bx (w : World) (g : Nat) (u : Value) : Prop where
  c : w.cell? ⟨g, 0, none⟩ = some u
  f : w.frozen? ⟨g, 0, none⟩ = false
theorem Bx.new (w : World) (v : Value) (t : TypeId) : Bx (w.alloc (.cells #[v] t)) w.heap.size v := ⟨cell_new1 w v t, frozen_of_row _ _ _ _ _ (heap_alloc_new w _)⟩
theorem Bx.lt {w : World} {g : Nat} {u : Value} (h : Bx w g u) : g < w.heap.size := World.block_lt_of_cell? w _ h.c
theorem Bx.turn {S : Nat → Prop} {w w' : World} {g : Nat} {u : Value} (h : Bx w g u) (t : Turn S w w') (hn : ¬ S g) : Bx w' g u := ⟨t.keep h.c hn, (t.frozen h.lt hn).trans h.f⟩
theorem Bx.turn_no {w w' : World} {g : Nat} {u : Value} (h : Bx w g u) (t : Turn no w w') : Bx w' g u := h.turn t (fun q => q)
theorem Bx.set {w : World} {g : Nat} {u : Value} (h : Bx w g u) (x : Value) : (w.setCell ⟨g, 0, none⟩ x).cell? ⟨g, 0, none⟩ = some x := World.cell?_setCell_same w _ x h.c
theorem Turn.set0 {S : Nat → Prop} {a w : World} (h : Turn S a w) {g : Nat} (hg : a.heap.size ≤ g) (u : Value) : Turn S a (w.setCell ⟨g, 0, none⟩ u) := h.setCell (p := ⟨g, 0, none⟩) (fun q => absurd q (Nat.not_lt.2 hg)) u
theorem Made.turn {S : Nat → Prop} {old : Nat} {w w' : World} {v : Value} {l : List Mb} (h : Made old w v l) (t : Turn S w w') (hn : ∀ g, v.ownBlock = some g → ¬ S g) : Made old w' v l := by
  obtain ⟨g, cap, e, R, ho⟩ := h
  exact ⟨g, cap, e, R.turn t (hn g (by rw [e]; rfl)), ho⟩

set_option maxRecDepth 100000 in
set_option maxHeartbeats 1000000 in
theorem rnew16_no (w : World) (v : Value) (l : List Mb) (h : Ms w v l) (hb : l.length * 24 ≤ 140737488351232) (hE : weighE l ≠ 0) : Calls Try.prog 9 #[v] w fun e w' => e = .returned (.tuple #[.agg #[.slice none 0 0], .int .i64 (weighE l)]) ∧ Turn no w w' := by
  have T0 : Turn no w (w.alloc (.cells #[.slice none 0 0] 26)) := (Turn.refl no w).alloc _
  have B0 := Bx.new w (.slice none 0 0) 26
  have hp := plain37 _ v l (h.turn_no T0) hb
  have hok := zeroed_ok h.ok
  have hzl := zeroed_len l
  have hzs := zeroed_sound l
  have hne : (weighE l == 0) = false := by simp; exact hE
  clear h
  go_enter Try.func9, Try.ntmps9
  go_wp2_with fail
  refine hp.mono ?_
  rintro e w1 ⟨u, rfl, O, hf, T1⟩
  have M1 := O.ms hzl.symm hok
  have B1 := B0.turn_no T1
  have hT : Turn no w w1 := T0.then_no T1
  have hso : ∀ W, Turn no w1 W → _ := fun W T => rsound11 W u _ (M1.turn_no T)
  rw [hzs] at hso
  obtain ⟨ua, uc, rfl, _⟩ := O.form
  clear hp hzs M1 O B0 hzl
  have T2 : Turn no w1 (w1.alloc (.cells #[.slice ua l.length uc] 26)) := (Turn.refl no w1).alloc _
  have hso := hso _ T2
  obtain ⟨n, hn⟩ : ∃ n, Hid (l.length = n) := ⟨_, rfl⟩
  have hn' : l.length = n := hn.out
  rw [hn'] at hso T2 ⊢
  clear hn'
  go_wp2_with fail
  refine hso.mono ?_
  rintro e w3 ⟨rfl, T3⟩
  have B3 := (B1.turn_no T2).turn_no T3
  have T := (hT.then_no T2).then_no T3
  have c4 := B3.c
  have f4 := B3.f
  have c5 := B3.set (.slice none 0 0)
  clear hso B1 B3
  go_wp2_with fail
  exact bodyPost_ret (v := .tuple #[.agg #[.slice none 0 0], .int .i64 (weighE l)]) (by simp [results, Try.results9, go_sem, c5]) rfl ⟨rfl, T.set0 (Nat.le_refl _) _⟩

set_option maxRecDepth 100000 in
set_option maxHeartbeats 1000000 in
theorem rnew16_yes (w : World) (v : Value) (l : List Mb) (h : Ms w v l) (hE : weighE l = 0) : Calls Try.prog 9 #[v] w fun e w' => ∃ u, e = .returned (.tuple #[.agg #[u], .int .i64 0]) ∧ Made w.heap.size w' u (zeroed l) ∧ Turn no w w' := by
  have T0 : Turn no w (w.alloc (.cells #[.slice none 0 0] 26)) := (Turn.refl no w).alloc _
  have B0 := Bx.new w (.slice none 0 0) 26
  obtain ⟨hn0, hn64, _, _⟩ := weigh_ok l hE
  have hp := plain37 _ v l (h.turn_no T0) (by omega)
  have hok := zeroed_ok h.ok
  have hzl := zeroed_len l
  have hzs := zeroed_sound l
  rw [hE] at hzs
  have hs0 : w.heap.size < (w.alloc (.cells #[.slice none 0 0] 26)).heap.size := by simp
  clear h
  obtain ⟨n, hn⟩ : ∃ n, Hid (l.length = n) := ⟨_, rfl⟩
  have hn' : l.length = n := hn.out
  rw [hn'] at hp hn0 hzl
  clear hn'
  go_enter Try.func9, Try.ntmps9
  go_wp2_with fail
  refine hp.mono ?_
  rintro e w1 ⟨u, rfl, O, hf, T1⟩
  obtain ⟨g, cap, rfl, R⟩ := O.rw hzl.symm (by omega) hok
  have hg : w.heap.size < g := by have := hf g rfl; omega
  have B1 := B0.turn_no T1
  have hT : Turn no w w1 := T0.then_no T1
  have T2 : Turn no w1 (w1.alloc (.cells #[.slice (some ⟨g, 0, none⟩) n cap] 26)) := (Turn.refl no w1).alloc _
  have BB := Bx.new w1 (.slice (some ⟨g, 0, none⟩) n cap) 26
  have hso := rsound11 _ (.slice (some ⟨g, 0, none⟩) n cap) _ (⟨_, cap, by rw [hzl], (R.turn_no T2).at⟩ : Ms _ _ (zeroed l))
  rw [hzs] at hso
  have hw1 : w.heap.size < w1.heap.size := B1.lt
  clear hp hzs O B0 hf
  go_wp2_with fail
  refine hso.mono ?_
  rintro e w3 ⟨rfl, T3⟩
  have B3 := (B1.turn_no T2).turn_no T3
  have BB3 := BB.turn_no T3
  have T := (hT.then_no T2).then_no T3
  have c4 := B3.c
  have f4 := B3.f
  have c6 := BB3.c
  have c5 := B3.set (.slice (some ⟨g, 0, none⟩) n cap)
  have R3 := ((R.turn_no T2).turn_no T3).turn ((Turn.refl (fun b => b = w.heap.size) w3).setCell (p := ⟨w.heap.size, 0, none⟩) (fun _ => rfl) (.slice (some ⟨g, 0, none⟩) n cap)) (fun q => by omega)
  have MD : Made w.heap.size (w3.setCell ⟨w.heap.size, 0, none⟩ (.slice (some ⟨g, 0, none⟩) n cap)) (.slice (some ⟨g, 0, none⟩) n cap) (zeroed l) := ⟨g, cap, by rw [hzl], R3, by omega⟩
  clear hso B1 B3 BB BB3 R R3
  go_wp2_with fail
  exact bodyPost_ret (v := .tuple #[.agg #[.slice (some ⟨g, 0, none⟩) n cap], .int .i64 0]) (by simp [results, Try.results9, go_sem, c5]) rfl ⟨_, rfl, MD, T.set0 (Nat.le_refl _) _⟩
end Go.Proofs.Ytcmoocoklhjkfab
