/- CouncilShares: the walk and the row. -/
import Derived.Test.YtcmoocoklhjkfaaQ3
import Derived.Test.YtcmoocoklhjkfaaNewsW
import Derived.Test.YtcmoocoklhjkfaaOpen
import Derived.Laws.OwnMore
namespace Go.Proofs.Ytcmoocoklhjkfaa
open Go.ChangeShapes Go.WideShapes Go.ChangeAt Go.RowKit Go.Joins Go.Deep
set_option linter.unusedVariables false

def turnsOf (n : Int) : Nat := if n < 0 then (-(n + 1)).toNat % 300 else n.toNat % 300
theorem turnsOf_lt (n : Int) : turnsOf n < 300 := by unfold turnsOf; split <;> omega
set_option maxRecDepth 100000 in
set_option maxHeartbeats 40000000 in
theorem turns19 (w : World) (n : Int) (h0 : -9223372036854775808 ≤ n) (h1 : n < 9223372036854775808) : Calls Try.prog 19 #[.int .i64 n] w fun e w' => e = .returned (.int .i64 (turnsOf n)) ∧ w' = w := by
  by_cases hn : n < 0
  · have HT : Hid (turnsOf n = (-(n + 1)).toNat % 300) := by show turnsOf n = _; rw [turnsOf, if_pos hn]
    obtain ⟨k, hk⟩ : ∃ k : Nat, -(n + 1) = (k : Int) := ⟨(-(n + 1)).toNat, by omega⟩
    have e3 : (k : Int) ≤ 9223372036854775807 := by omega
    have hn1 : n + 1 ≤ 0 := by omega
    have hn2 : -9223372036854775808 ≤ n + 1 := by omega
    go_enter Try.func19, Try.ntmps19
    go_wp2_with fail
    go_ret
    refine ⟨ret_i ?_, rfl⟩
    rw [HT.out, hk]
    simp
  · have HT : Hid (turnsOf n = n.toNat % 300) := by show turnsOf n = _; rw [turnsOf, if_neg hn]
    obtain ⟨k, hk⟩ : ∃ k : Nat, n = (k : Int) := ⟨n.toNat, by omega⟩
    subst hk
    go_enter Try.func19, Try.ntmps19
    go_wp2_with fail
    go_ret
    refine ⟨ret_i ?_, rfl⟩
    rw [HT.out]
    simp

/-- A row of counts. -/
structure Cw (w : World) (g n : Nat) (f : Nat → Nat) : Prop where
  obj : ∃ cur, w.heap[g]? = some (.cells cur 2 (0, 0)) ∧ cur.size = n ∧ ∀ j, j < n → cur[j]? = some (.int .i64 (f j))
theorem Cw.cell {w : World} {g n : Nat} {f : Nat → Nat} (h : Cw w g n f) (j : Nat) (hj : j < n) : w.cell? ⟨g, j, none⟩ = some (.int .i64 (f j)) := by
  obtain ⟨cur, ho, _, hc⟩ := h.obj
  rw [cell_of_row _ g j cur 2 (0, 0) ho]
  exact hc j hj
theorem Cw.frozen {w : World} {g n : Nat} {f : Nat → Nat} (h : Cw w g n f) (j : Nat) : w.frozen? ⟨g, j, none⟩ = false := by
  obtain ⟨cur, ho, _⟩ := h.obj
  exact frozen_of_row w g j _ 2 ho
theorem Cw.lt {w : World} {g n : Nat} {f : Nat → Nat} (h : Cw w g n f) : g < w.heap.size := by
  obtain ⟨cur, ho, _⟩ := h.obj
  exact lt_of_obj ho
theorem Cw.turn {S : Nat → Prop} {w w' : World} {g n : Nat} {f : Nat → Nat} (h : Cw w g n f) (t : Turn S w w') (hn : ¬ S g) : Cw w' g n f := by
  obtain ⟨cur, ho, r⟩ := h.obj
  exact ⟨cur, t.obj ho hn, r⟩
theorem Cw.turn_no {w w' : World} {g n : Nat} {f : Nat → Nat} (h : Cw w g n f) (t : Turn no w w') : Cw w' g n f := h.turn t (fun q => q)
theorem Cw.set {w : World} {g n : Nat} {f : Nat → Nat} (h : Cw w g n f) (c : Nat) (hc : c < n) (f' : Nat → Nat) (hf : ∀ j, f' j = if c = j then f j + 1 else f j) : Cw (w.setCell ⟨g, c, none⟩ (.int .i64 ((f c : Int) + 1))) g n f' := by
  obtain ⟨cur, ho, hs, hr⟩ := h.obj
  refine ⟨_, heap_setCell_same w g c cur 2 _ ho, by simpa using hs, fun j hj => ?_⟩
  rw [hf j]
  by_cases e : c = j
  · subst e
    rw [if_pos rfl, Array.getElem?_setIfInBounds_self_of_lt (by omega)]
    congr 2
  · rw [if_neg e, Array.getElem?_setIfInBounds_ne e]
    exact hr j hj
theorem Cw.new (w : World) (n : Nat) : Cw (w.alloc (.cells (madeCells #[.int .i64 0] n) 2)) w.heap.size n (fun _ => 0) := by
  refine ⟨_, heap_alloc_new w _, size_madeCells _ _, fun j hj => ?_⟩
  have := toList_madeCells_one (.int .i64 0) n
  rw [← Array.getElem?_toList, this, List.getElem?_replicate, if_pos hj]
  rfl
theorem info2 : (Try.prog.info? 2).map (fun i => (i.zero, i.size, i.bytes)) = some (some (.int .i64 0), 1, 8) := by kernel_rfl
theorem mk41 (w : World) (n : Nat) (hn : n ≤ 64) : (Instr.makeSlice 41 (.int .i64 n) (.int .i64 n)).run Try.prog w = .ok (.slice (some ⟨w.heap.size, 0, none⟩) n n) (w.alloc (.cells (madeCells #[.int .i64 0] n) 2)) := by
  obtain ⟨i, hi, hz0, hz1, hz2⟩ := info_parts info2
  have := run_make (P := Try.prog) w 41 2 i (.int .i64 0) Try.underlying41 hi hz0 .i64 .i64 n n (by omega) (Int.le_refl _) (by rw [hz2]; omega) (by omega)
  rw [hz1, show (Value.int .i64 0).cells = #[.int .i64 0] from rfl] at this
  simpa using this

/-- A cell that is held, written. -/
theorem Bx.put {w : World} {g : Nat} {u : Value} (h : Bx w g u) (x : Value) : Bx (w.setCell ⟨g, 0, none⟩ x) g x :=
  ⟨h.set x, by rw [World.frozen?_setCell]; exact h.f⟩

/-- What is known of the turns from New on. -/
structure Sh (l y : List Mb) (tt n : Nat) : Prop where
  snd : ∀ k, soundE (turnsN tt y k) = 0
  len : ∀ k, (turnsN tt y k).length = n
  tot : ∀ k, tot (turnsN tt y k) = tt
  idx : ∀ k, idxE (turnsN tt y k) (propN tt (turnsN tt y k) 0) = ch y k
  lt : ∀ k, ch y k < n
  add : ∀ k, turnsN tt (turnsN tt y k) 1 = turnsN tt y (k + 1)
  bnd : ∀ (k j : Nat) (m : Mb), (turnsN tt y k)[j]? = some m → -(tt : Int) < m.pr ∧ 4 * m.pr ≤ 15 * tt
  pr : ∀ (k j : Nat) (m m0 : Mb), (turnsN tt y k)[j]? = some m → l[j]? = some m0 → m.pr = (k : Int) * m0.pw - (cc y k j : Int) * tt
  fin : ∀ (j : Nat) (m m0 : Mb), (turnsN tt y tt)[j]? = some m → l[j]? = some m0 → m.pr = 0 ∧ cc y tt j = m0.pw
  pw : ∀ (j : Nat) (m0 : Mb), l[j]? = some m0 → m0.pw ≤ tt
theorem sh_of (l : List Mb) (hL : weighE l = 0) : Sh l (zeroed l) (tot l) l.length := by
  have hyw : weighE (zeroed l) = 0 := by rw [zeroed_weigh]; exact hL
  have hys : soundE (zeroed l) = 0 := by rw [zeroed_sound]; exact hL
  have hpos := tot_pos l hL
  have hty := zeroed_tot l
  have hG := fun k => turns_good (zero_good 0 (tot l - 1) l hL) (by omega) hyw (by omega) k
  have hz0 : ∀ m ∈ zeroed l, m.pr = 0 := fun m hm => by
    obtain ⟨x, _, rfl⟩ := List.mem_map.1 hm
    rfl
  have hll : ∀ (j : Nat) (m : Mb), l[j]? = some m → (zeroed l)[j]? = some { m with pr := 0 } := fun j m hm => by rw [zeroed, List.getElem?_map, hm]; rfl
  have hxw : ∀ k, weighE (turnsN (tot (zeroed l)) (zeroed l) k) = 0 := fun k => by rw [keys_weigh (turns_keys (tot (zeroed l)) (zeroed l) k)]; exact hyw
  refine ⟨fun k => ?_, fun k => ?_, fun k => ?_, fun k => ?_, fun k => ?_, fun k => ?_, fun k j m hm => ?_, fun k j m m0 hm h0 => ?_, fun j m m0 hm h0 => ?_, fun j m0 h0 => ?_⟩
  · rw [← hty]; exact turns_sound (zeroed l) hys k
  · rw [turns_len, zeroed_len]
  · rw [turns_tot, hty]
  · have h1 := prop_idx _ (hxw k) 0
    rw [turns_tot, ch_turns, hty] at h1
    exact h1
  · rw [← zeroed_len l]; exact ch_lt hyw k
  · exact turns_add _ _ k 1
  · have hg := hG k
    rw [hty] at hg
    have h1 := hg.low m (List.mem_of_getElem? hm)
    have h2 := hg.one (List.mem_of_getElem? hm)
    rw [turns_tot, hty] at h2
    omega
  · have h1 := (pr_at hG (by omega) hyw k j m { m0 with pr := 0 } (by rw [hty]; exact hm) (hll j m0 h0)).1
    rw [hty] at h1
    simp only at h1
    omega
  · have h1 := whole_turn hG (by omega) hyw (by omega) hz0 (sumP_zero l) j m { m0 with pr := 0 } (by rw [hty]; exact hm) (hll j m0 h0)
    rw [hty] at h1
    exact h1
  · exact pw_le_tot l m0 (List.mem_of_getElem? h0)
theorem cc_set (y : List Mb) (k : Nat) : ∀ j, cc y (k + 1) j = if ch y k = j then cc y k j + 1 else cc y k j := fun j => by
  rw [cc]
  split <;> rfl

set_option maxRecDepth 100000 in
set_option maxHeartbeats 40000000 in
theorem shares_any (w : World) (v : Value) (l : List Mb) (kk : Int) (h : Ms w v l) (hb : l.length * 24 ≤ 140737488351232) (hk0 : -9223372036854775808 ≤ kk) (hk1 : kk < 9223372036854775808) :
    Calls Try.prog 5 #[v, .int .i64 kk] w fun e w' => e = .returned (.bool true) ∧ Turn no w w' := by
  have c1 := alive9 w
  obtain ⟨va, vcap, ev⟩ := h.shape
  obtain ⟨n, hn⟩ : ∃ n, Hid (l.length = n) := ⟨_, rfl⟩
  rw [show l.length = n from hn.out] at ev
  subst ev
  have ctn := fun W => turns19 W kk hk0 hk1
  have htl := turnsOf_lt kk
  generalize turnsOf kk = K0 at *
  go_enter Try.func5, Try.ntmps5
  go_wp2_with fail
  refine c1.mono ?_
  rintro e w1 ⟨rfl, T⟩
  clear c1
  by_cases hL : weighE l = 0
  · have c2 := new15_yes w1 _ l (h.turn_no T) hL
    have SH := sh_of l hL
    have htt := tot_le_top l hL
    have hn64 := (weigh_ok l hL).2.1
    have hnp := (weigh_ok l hL).1
    have cN := fun W hT => rnew16_yes W (.slice va n vcap) l (h.turn_no hT) hL
    have c5 := fun W hT => ltotal18 W (.slice va n vcap) l (h.turn_no hT) htt
    obtain ⟨y, hy⟩ : ∃ y, Hid (zeroed l = y) := ⟨_, rfl⟩
    rw [show zeroed l = y from hy.out] at c2 SH cN
    obtain ⟨tt, ht⟩ : ∃ tt, Hid (tot l = tt) := ⟨_, rfl⟩
    rw [show tot l = tt from ht.out] at SH htt c5
    rw [show l.length = n from hn.out] at SH hn64 hnp
    have q9 : (tt : Int) ≤ 1152921504606846975 := by omega
    have hnI : (n : Int) ≤ 64 := by omega
    have hmk := fun W => mk41 W n hn64
    have hyl := SH.len 0
    rw [turnsN] at hyl
    obtain ⟨va', vcap', eva, VM⟩ := h
    have eva2 : va = va' ∧ vcap = vcap' := by injection eva with e1 _ e3; exact ⟨e1, e3⟩
    obtain ⟨rfl, rfl⟩ := eva2
    clear eva hL hb
    go_wp2_with fail
    refine c2.mono ?_
    rintro e w2 ⟨u, rfl, MU, t⟩
    have TA : Turn no w2 (w2.alloc (.cells #[u] 24)) := (Turn.refl no w2).alloc _
    have BP := Bx.new w2 u 24
    have hpw : w.heap.size ≤ w2.heap.size := Nat.le_trans T.size t.size
    have T := (T.then_no t).then_no TA
    obtain ⟨ug, uc, eu, RU, _⟩ := MU
    rw [hyl] at eu
    subst eu
    have hugp : ug ≠ w2.heap.size := Nat.ne_of_lt RU.lt
    have RU := RU.turn_no TA
    have hp0 : w2.heap.size < (w2.alloc (.cells #[.slice (some ⟨ug, 0, none⟩) n uc] 24)).heap.size := by simp
    have c3 := cN _ T
    clear c2 t cN
    go_wp2_with fail
    obtain ⟨p, hp⟩ : ∃ p, Hid (w2.heap.size = p) := ⟨_, rfl⟩
    rw [show w2.heap.size = p from hp.out] at BP hugp hp0 hpw ⊢
    clear hp TA
    generalize w2.alloc (.cells #[.slice (some ⟨ug, 0, none⟩) n uc] 24) = w3 at *
    refine c3.mono ?_
    rintro e w4 ⟨u2, rfl, MU2, t⟩
    have TB : Turn no w4 (w4.alloc (.cells #[u2] 24)) := (Turn.refl no w4).alloc _
    have t2 := t.then_no TB
    have BP := BP.turn_no t2
    have RU := RU.turn_no t2
    have T := T.then_no t2
    have hs2 := t2.size
    obtain ⟨u2g, u2c, eu2, _⟩ := MU2
    rw [hyl] at eu2
    subst eu2
    have c6 := c5 _ T
    clear c3 t TB c5
    go_wp2_with fail
    generalize w4.alloc (.cells #[.slice (some ⟨u2g, 0, none⟩) n u2c] 24) = w5 at *
    refine c6.mono ?_
    rintro e w6 ⟨rfl, e6⟩
    have e6 := e6.symm
    subst e6
    clear c6
    go_wp2_with fail
    refine (ctn _).mono ?_
    rintro e w6 ⟨rfl, e6⟩
    have e6 := e6.symm
    subst e6
    clear ctn t2
    -- the counts
    have TM : Turn no w5 (w5.alloc (.cells (madeCells #[.int .i64 0] n) 2)) := (Turn.refl no w5).alloc _
    have CW := Cw.new w5 n
    have BPM := BP.turn_no TM
    have RUM := RU.turn_no TM
    have TMw := T.then_no TM
    have hugg : ug ≠ w5.heap.size := by have := RU.lt; omega
    have hpg : p < w5.heap.size := by omega
    have hmk5 := hmk w5
    clear hmk
    by_cases q : tt ≤ 400
    · have q' : (tt : Int) ≤ 400 := by omega
      go_wp2_with fail
      obtain ⟨gc, hgc⟩ : ∃ gc, Hid (w5.heap.size = gc) := ⟨_, rfl⟩
      rw [show w5.heap.size = gc from hgc.out] at CW hugg hpg ⊢
      have hgw : w.heap.size ≤ gc := by rw [← hgc.out]; exact T.size
      clear hgc hmk5 TM T RU BP
      generalize w5.alloc (.cells (madeCells #[.int .i64 0] n) 2) = w6 at *
      go_loopw [13] (fun x wr => ∃ (k ug uc : Nat), k ≤ tt ∧ x = .int .i64 ((k : Int) + 1) ∧ Bx wr p (.slice (some ⟨ug, 0, none⟩) n uc) ∧ Rw wr ug uc (turnsN tt y k) ∧ ug ≠ p ∧ ug ≠ gc ∧ Cw wr gc n (cc y k) ∧ Turn no w wr) (fun x _ => tt + 1 - (intOf x).toNat)
      case atStart => exact ⟨0, ug, uc, by omega, rfl, BPM, RUM, hugp, hugg, CW, TMw⟩
      case round =>
        clear BPM RUM hugp hugg CW TMw
        obtain ⟨k, ug, uc, hk, rfl, BP, RU, hugp, hugg, CW, T⟩ := hrel
        obtain ⟨wo, hwo⟩ : ∃ wo, wo = wr := ⟨_, rfl⟩
        subst hwo
        by_cases hlt : k < tt
        · have HK : Hid (k < tt) := hlt
          have hlt' : (k : Int) + 1 ≤ (tt : Int) := by omega
          have hk4 : (k : Int) + 1 ≤ 400 := by omega
          have MU : Ms wo (.slice (some ⟨ug, 0, none⟩) n uc) (turnsN tt y k) := ⟨_, uc, by rw [SH.len k], RU.at⟩
          have cP := fun W M => prop12_yes W (.slice (some ⟨ug, 0, none⟩) n uc) (turnsN tt y k) M 0 (SH.snd k) (by decide)
          have cI := fun W M => index20 W (.slice (some ⟨ug, 0, none⟩) n uc) (turnsN tt y k) M (propN tt (turnsN tt y k) 0)
          have cT := fun W M => turn10_yes W (.slice (some ⟨ug, 0, none⟩) n uc) (turnsN tt y k) M 1 (SH.snd k) (by decide)
          rw [SH.tot k] at cP cT
          rw [SH.idx k] at cI
          rw [SH.add k] at cT
          have hcn := SH.lt k
          have hlen1 := SH.len (k + 1)
          have hcs := cc_set y k
          generalize propN tt (turnsN tt y k) 0 = pp at *
          obtain ⟨c, hc⟩ : ∃ c, Hid (ch y k = c) := ⟨_, rfl⟩
          rw [show ch y k = c from hc.out] at cI hcn hcs
          have hcn' : (c : Int) < (n : Int) := by omega
          have bx := BP.c
          have c7 := cP _ MU
          clear cP
          go_wp2_with fail
          refine c7.mono ?_
          rintro e w7 ⟨rfl, t⟩
          have BP := BP.turn_no t
          have MU := MU.turn_no t
          have CW := CW.turn_no t
          have T := T.then_no t
          have hs7 := t.size
          have bx7 := BP.c
          have c8 := cI _ MU
          clear c7 t cI bx RU
          go_wp2_with fail
          refine c8.mono ?_
          rintro e w8 ⟨rfl, t⟩
          have BP := BP.turn_no t
          have MU := MU.turn_no t
          have CW := CW.turn_no t
          have T := T.then_no t
          have bx8 := BP.c
          have hpl := BP.lt
          have hgl := CW.lt
          have c9 := cT _ MU
          clear c8 t cT bx7
          go_wp2_with fail
          refine c9.mono ?_
          rintro e w9 ⟨uz, rfl, MZ, t⟩
          obtain ⟨zg, zc, ez, RZ, hzg⟩ := MZ
          rw [hlen1] at ez
          subst ez
          have hzp : zg ≠ p := by omega
          have hzgc : zg ≠ gc := by omega
          have BP := BP.turn_no t
          have CW := CW.turn_no t
          have T := T.then_no t
          have b9 := BP.c
          have f9 := BP.f
          have TS := (Turn.refl (fun b => b = p) w9).setCell (p := ⟨p, 0, none⟩) (fun _ => rfl) (.slice (some ⟨zg, 0, none⟩) n zc)
          have BP := BP.put (.slice (some ⟨zg, 0, none⟩) n zc)
          have CW := CW.turn TS (fun q => by omega)
          have RZ := RZ.turn TS (fun q => hzp q)
          have T := (T.of_no.trans TS (fun _ _ q => q)).mono (S' := no) (fun b hb q => by have : b = p := q; omega)
          have x9 := BP.c
          have d9 := CW.cell c hcn
          have g9 := CW.frozen c
          have hccb : (cc y k c : Int) ≤ 400 := by have := cc_le y k c; omega
          have TS2 := (Turn.refl (fun b => b = gc) (w9.setCell ⟨p, 0, none⟩ (.slice (some ⟨zg, 0, none⟩) n zc))).setCell (p := ⟨gc, c, none⟩) (fun _ => rfl) (.int .i64 ((cc y k c : Int) + 1))
          have CW := CW.set c hcn (cc y (k + 1)) hcs
          have BP := BP.turn TS2 (fun q => by omega)
          have RZ := RZ.turn TS2 (fun q => hzgc q)
          have T := (T.of_no.trans TS2 (fun _ _ q => q)).mono (S' := no) (fun b hb q => by have : b = gc := q; omega)
          have TZ := T
          clear c9 t TS TS2 MU bx8 hcs
          go_wp2_with fail
          generalize (w9.setCell ⟨p, 0, none⟩ (.slice (some ⟨zg, 0, none⟩) n zc)).setCell ⟨gc, c, none⟩ (.int .i64 ((cc y k c : Int) + 1)) = wa at *
          clear b9 f9 x9 d9 g9
          go_loopw [17] (fun x wr => ∃ j : Nat, j ≤ n ∧ x = .int .i64 j ∧ Turn no wa wr) (fun x _ => n - (intOf x).toNat)
          case atStart => exact ⟨0, by omega, rfl, Turn.refl _ _⟩
          case round =>
            obtain ⟨j, hj, rfl, TJ⟩ := hrel
            by_cases hjl : j < n
            · have hjl' : (j : Int) < (n : Int) := by omega
              obtain ⟨m, hm⟩ : ∃ m, (turnsN tt y (k + 1))[j]? = some m := ⟨_, List.getElem?_eq_getElem (by rw [hlen1]; exact hjl)⟩
              obtain ⟨m0, hm0⟩ : ∃ m0, l[j]? = some m0 := ⟨l[j]'(by rw [hn.out]; exact hjl), List.getElem?_eq_getElem _⟩
              have k1 := (BP.turn_no TJ).c
              obtain ⟨_, _, x2⟩ := (RZ.turn_no TJ).cells j m hm
              have y1 := (CW.turn_no TJ).cell j hjl
              obtain ⟨bl, ol, el, z0, z1, z2⟩ := (VM.turn_no (TZ.then_no TJ)).cells j m0 hm0
              subst el
              obtain ⟨u1, u2⟩ := SH.bnd (k + 1) j m hm
              have u3 := SH.pr (k + 1) j m m0 hm hm0
              have u4 := SH.pw j m0 hm0
              have u5 := cc_le y (k + 1) j
              have p1 : ¬ m.pr ≤ -(tt : Int) := by omega
              have p2 : ¬ 3 * (tt : Int) + (tt : Int) / 4 * 3 + 3 < m.pr := by omega
              generalize cc y (k + 1) j = cj at *
              clear hm hm0 u1 u2 z0 z2
              by_cases q5 : (tt : Int) < 1125899906842624
              · have u3' : m.pr = ((k : Int) + 1) * m0.pw - (cj : Int) * tt := by rw [u3]; simp
                have A0 : 0 ≤ ((k : Int) + 1) * (m0.pw : Int) := Int.mul_nonneg (by omega) (by omega)
                have A1 : ((k : Int) + 1) * (m0.pw : Int) ≤ 400 * 1125899906842624 := Int.mul_le_mul hk4 (by omega) (by omega) (by omega)
                have B0 : 0 ≤ (cj : Int) * (tt : Int) := Int.mul_nonneg (by omega) (by omega)
                have B1 : (cj : Int) * (tt : Int) ≤ 400 * 1125899906842624 := Int.mul_le_mul (by omega) (by omega) (by omega) (by omega)
                have hne : (m.pr != ((k : Int) + 1) * m0.pw - (cj : Int) * tt) = false := by rw [u3']; simp
                have heq : (m.pr == ((k : Int) + 1) * m0.pw - (cj : Int) * tt) = true := by rw [u3']; simp
                have A2 : ((k : Int) + 1) * (m0.pw : Int) ≤ 9223372036854775807 := by omega
                have B2 : (cj : Int) * (tt : Int) ≤ 9223372036854775807 := by omega
                have C1 : -9223372036854775808 ≤ ((k : Int) + 1) * (m0.pw : Int) - (cj : Int) * (tt : Int) := by omega
                have C2 : ((k : Int) + 1) * (m0.pw : Int) - (cj : Int) * (tt : Int) ≤ 9223372036854775807 := by omega
                have C3 : (m0.pw : Int) ≤ 9223372036854775807 := by omega
                clear u3 u3' A1 B1 u4 u5
                go_wp2_with fail
                go_quiet (fail)
                go_wp2_with fail
                go_roundw
                case rel => exact ⟨j + 1, by omega, by go_num, TJ.drewN _⟩
                case measure => simp [intOf]; omega
              · exact absurd (show (tt : Int) < 1125899906842624 by omega) q5
            · have hjl' : ¬ (j : Int) < (n : Int) := by omega
              have BP := BP.turn_no TJ
              have RZ := RZ.turn_no TJ
              have CW := CW.turn_no TJ
              have T := TZ.then_no TJ
              go_wp2_with fail
              go_roundw
              case rel => exact ⟨k + 1, zg, zc, HK.out, by go_num, BP, RZ, hzp, hzgc, CW, T⟩
              case measure => have := HK.out; simp [intOf]; omega
        · have hkN : k = tt := by omega
          have hlt' : ¬ (k : Int) + 1 ≤ (tt : Int) := by omega
          go_wp2_with fail
          go_loopw [19] (fun x wr => ∃ j : Nat, j ≤ n ∧ x = .int .i64 j ∧ Turn no wo wr) (fun x _ => n - (intOf x).toNat)
          case atStart => exact ⟨0, by omega, rfl, Turn.refl _ _⟩
          case round =>
            obtain ⟨j, hj, rfl, TJ⟩ := hrel
            by_cases hjl : j < n
            · have hjl' : (j : Int) < (n : Int) := by omega
              obtain ⟨m, hm⟩ : ∃ m, (turnsN tt y k)[j]? = some m := ⟨_, List.getElem?_eq_getElem (by rw [SH.len]; exact hjl)⟩
              obtain ⟨m0, hm0⟩ : ∃ m0, l[j]? = some m0 := ⟨l[j]'(by rw [hn.out]; exact hjl), List.getElem?_eq_getElem _⟩
              have k1 := (BP.turn_no TJ).c
              obtain ⟨_, _, x2⟩ := (RU.turn_no TJ).cells j m hm
              have y1 := (CW.turn_no TJ).cell j hjl
              obtain ⟨bl, ol, el, z0, z1, z2⟩ := (VM.turn_no (T.then_no TJ)).cells j m0 hm0
              subst el
              rw [hkN] at hm y1
              obtain ⟨u1, u2⟩ := SH.fin j m m0 hm hm0
              have u4 := SH.pw j m0 hm0
              rw [u1] at x2
              rw [u2] at y1
              have C3 : (m0.pw : Int) ≤ 9223372036854775807 := by omega
              clear hm hm0 u1 u2 z0 z2 hkN u4
              go_wp2_with fail
              go_quiet (fail)
              go_wp2_with fail
              go_roundw
              case rel => exact ⟨j + 1, by omega, by go_num, TJ.drewN _⟩
              case measure => simp [intOf]; omega
            · have hjn : j = n := by omega
              subst hjn
              have hjl' : ¬ (j : Int) < (j : Int) := by omega
              go_wp2_with fail
              go_ret
              exact ⟨rfl, T.then_no TJ⟩
    · have q' : ¬ (tt : Int) ≤ 400 := by omega
      have hK4 : (K0 : Int) ≤ 400 := by omega
      go_wp2_with fail
      obtain ⟨gc, hgc⟩ : ∃ gc, Hid (w5.heap.size = gc) := ⟨_, rfl⟩
      rw [show w5.heap.size = gc from hgc.out] at CW hugg hpg ⊢
      have hgw : w.heap.size ≤ gc := by rw [← hgc.out]; exact T.size
      clear hgc hmk5 TM T RU BP
      generalize w5.alloc (.cells (madeCells #[.int .i64 0] n) 2) = w6 at *
      go_loopw [13] (fun x wr => ∃ (k ug uc : Nat), k ≤ K0 ∧ x = .int .i64 ((k : Int) + 1) ∧ Bx wr p (.slice (some ⟨ug, 0, none⟩) n uc) ∧ Rw wr ug uc (turnsN tt y k) ∧ ug ≠ p ∧ ug ≠ gc ∧ Cw wr gc n (cc y k) ∧ Turn no w wr) (fun x _ => K0 + 1 - (intOf x).toNat)
      case atStart => exact ⟨0, ug, uc, by omega, rfl, BPM, RUM, hugp, hugg, CW, TMw⟩
      case round =>
        clear BPM RUM hugp hugg CW TMw
        obtain ⟨k, ug, uc, hk, rfl, BP, RU, hugp, hugg, CW, T⟩ := hrel
        obtain ⟨wo, hwo⟩ : ∃ wo, wo = wr := ⟨_, rfl⟩
        subst hwo
        by_cases hlt : k < K0
        · have HK : Hid (k < K0) := hlt
          have hlt' : (k : Int) + 1 ≤ (K0 : Int) := by omega
          have hk4 : (k : Int) + 1 ≤ 400 := by omega
          have MU : Ms wo (.slice (some ⟨ug, 0, none⟩) n uc) (turnsN tt y k) := ⟨_, uc, by rw [SH.len k], RU.at⟩
          have cP := fun W M => prop12_yes W (.slice (some ⟨ug, 0, none⟩) n uc) (turnsN tt y k) M 0 (SH.snd k) (by decide)
          have cI := fun W M => index20 W (.slice (some ⟨ug, 0, none⟩) n uc) (turnsN tt y k) M (propN tt (turnsN tt y k) 0)
          have cT := fun W M => turn10_yes W (.slice (some ⟨ug, 0, none⟩) n uc) (turnsN tt y k) M 1 (SH.snd k) (by decide)
          rw [SH.tot k] at cP cT
          rw [SH.idx k] at cI
          rw [SH.add k] at cT
          have hcn := SH.lt k
          have hlen1 := SH.len (k + 1)
          have hcs := cc_set y k
          generalize propN tt (turnsN tt y k) 0 = pp at *
          obtain ⟨c, hc⟩ : ∃ c, Hid (ch y k = c) := ⟨_, rfl⟩
          rw [show ch y k = c from hc.out] at cI hcn hcs
          have hcn' : (c : Int) < (n : Int) := by omega
          have bx := BP.c
          have c7 := cP _ MU
          clear cP
          go_wp2_with fail
          refine c7.mono ?_
          rintro e w7 ⟨rfl, t⟩
          have BP := BP.turn_no t
          have MU := MU.turn_no t
          have CW := CW.turn_no t
          have T := T.then_no t
          have hs7 := t.size
          have bx7 := BP.c
          have c8 := cI _ MU
          clear c7 t cI bx RU
          go_wp2_with fail
          refine c8.mono ?_
          rintro e w8 ⟨rfl, t⟩
          have BP := BP.turn_no t
          have MU := MU.turn_no t
          have CW := CW.turn_no t
          have T := T.then_no t
          have bx8 := BP.c
          have hpl := BP.lt
          have hgl := CW.lt
          have c9 := cT _ MU
          clear c8 t cT bx7
          go_wp2_with fail
          refine c9.mono ?_
          rintro e w9 ⟨uz, rfl, MZ, t⟩
          obtain ⟨zg, zc, ez, RZ, hzg⟩ := MZ
          rw [hlen1] at ez
          subst ez
          have hzp : zg ≠ p := by omega
          have hzgc : zg ≠ gc := by omega
          have BP := BP.turn_no t
          have CW := CW.turn_no t
          have T := T.then_no t
          have b9 := BP.c
          have f9 := BP.f
          have TS := (Turn.refl (fun b => b = p) w9).setCell (p := ⟨p, 0, none⟩) (fun _ => rfl) (.slice (some ⟨zg, 0, none⟩) n zc)
          have BP := BP.put (.slice (some ⟨zg, 0, none⟩) n zc)
          have CW := CW.turn TS (fun q => by omega)
          have RZ := RZ.turn TS (fun q => hzp q)
          have T := (T.of_no.trans TS (fun _ _ q => q)).mono (S' := no) (fun b hb q => by have : b = p := q; omega)
          have x9 := BP.c
          have d9 := CW.cell c hcn
          have g9 := CW.frozen c
          have hccb : (cc y k c : Int) ≤ 400 := by have := cc_le y k c; omega
          have TS2 := (Turn.refl (fun b => b = gc) (w9.setCell ⟨p, 0, none⟩ (.slice (some ⟨zg, 0, none⟩) n zc))).setCell (p := ⟨gc, c, none⟩) (fun _ => rfl) (.int .i64 ((cc y k c : Int) + 1))
          have CW := CW.set c hcn (cc y (k + 1)) hcs
          have BP := BP.turn TS2 (fun q => by omega)
          have RZ := RZ.turn TS2 (fun q => hzgc q)
          have T := (T.of_no.trans TS2 (fun _ _ q => q)).mono (S' := no) (fun b hb q => by have : b = gc := q; omega)
          have TZ := T
          clear c9 t TS TS2 MU bx8 hcs
          go_wp2_with fail
          generalize (w9.setCell ⟨p, 0, none⟩ (.slice (some ⟨zg, 0, none⟩) n zc)).setCell ⟨gc, c, none⟩ (.int .i64 ((cc y k c : Int) + 1)) = wa at *
          clear b9 f9 x9 d9 g9
          go_loopw [17] (fun x wr => ∃ j : Nat, j ≤ n ∧ x = .int .i64 j ∧ Turn no wa wr) (fun x _ => n - (intOf x).toNat)
          case atStart => exact ⟨0, by omega, rfl, Turn.refl _ _⟩
          case round =>
            obtain ⟨j, hj, rfl, TJ⟩ := hrel
            by_cases hjl : j < n
            · have hjl' : (j : Int) < (n : Int) := by omega
              obtain ⟨m, hm⟩ : ∃ m, (turnsN tt y (k + 1))[j]? = some m := ⟨_, List.getElem?_eq_getElem (by rw [hlen1]; exact hjl)⟩
              obtain ⟨m0, hm0⟩ : ∃ m0, l[j]? = some m0 := ⟨l[j]'(by rw [hn.out]; exact hjl), List.getElem?_eq_getElem _⟩
              have k1 := (BP.turn_no TJ).c
              obtain ⟨_, _, x2⟩ := (RZ.turn_no TJ).cells j m hm
              have y1 := (CW.turn_no TJ).cell j hjl
              obtain ⟨bl, ol, el, z0, z1, z2⟩ := (VM.turn_no (TZ.then_no TJ)).cells j m0 hm0
              subst el
              obtain ⟨u1, u2⟩ := SH.bnd (k + 1) j m hm
              have u3 := SH.pr (k + 1) j m m0 hm hm0
              have u4 := SH.pw j m0 hm0
              have u5 := cc_le y (k + 1) j
              have p1 : ¬ m.pr ≤ -(tt : Int) := by omega
              have p2 : ¬ 3 * (tt : Int) + (tt : Int) / 4 * 3 + 3 < m.pr := by omega
              generalize cc y (k + 1) j = cj at *
              clear hm hm0 u1 u2 z0 z2
              by_cases q5 : (tt : Int) < 1125899906842624
              · have u3' : m.pr = ((k : Int) + 1) * m0.pw - (cj : Int) * tt := by rw [u3]; simp
                have A0 : 0 ≤ ((k : Int) + 1) * (m0.pw : Int) := Int.mul_nonneg (by omega) (by omega)
                have A1 : ((k : Int) + 1) * (m0.pw : Int) ≤ 400 * 1125899906842624 := Int.mul_le_mul hk4 (by omega) (by omega) (by omega)
                have B0 : 0 ≤ (cj : Int) * (tt : Int) := Int.mul_nonneg (by omega) (by omega)
                have B1 : (cj : Int) * (tt : Int) ≤ 400 * 1125899906842624 := Int.mul_le_mul (by omega) (by omega) (by omega) (by omega)
                have hne : (m.pr != ((k : Int) + 1) * m0.pw - (cj : Int) * tt) = false := by rw [u3']; simp
                have heq : (m.pr == ((k : Int) + 1) * m0.pw - (cj : Int) * tt) = true := by rw [u3']; simp
                have A2 : ((k : Int) + 1) * (m0.pw : Int) ≤ 9223372036854775807 := by omega
                have B2 : (cj : Int) * (tt : Int) ≤ 9223372036854775807 := by omega
                have C1 : -9223372036854775808 ≤ ((k : Int) + 1) * (m0.pw : Int) - (cj : Int) * (tt : Int) := by omega
                have C2 : ((k : Int) + 1) * (m0.pw : Int) - (cj : Int) * (tt : Int) ≤ 9223372036854775807 := by omega
                have C3 : (m0.pw : Int) ≤ 9223372036854775807 := by omega
                clear u3 u3' A1 B1 u4 u5
                go_wp2_with fail
                go_quiet (fail)
                go_wp2_with fail
                go_roundw
                case rel => exact ⟨j + 1, by omega, by go_num, TJ.drewN _⟩
                case measure => simp [intOf]; omega
              · have hd : decide ((tt : Int) < 1125899906842624) = false := by simpa using q5
                clear u3 u4 u5
                go_wp2_with fail
                go_quiet (fail)
                go_wp2_with fail
                go_roundw
                case rel => exact ⟨j + 1, by omega, by go_num, TJ.drewN _⟩
                case measure => simp [intOf]; omega
            · have hjl' : ¬ (j : Int) < (n : Int) := by omega
              have BP := BP.turn_no TJ
              have RZ := RZ.turn_no TJ
              have CW := CW.turn_no TJ
              have T := TZ.then_no TJ
              go_wp2_with fail
              go_roundw
              case rel => exact ⟨k + 1, zg, zc, HK.out, by go_num, BP, RZ, hzp, hzgc, CW, T⟩
              case measure => have := HK.out; simp [intOf]; omega
        · have hkN : k = K0 := by omega
          have hlt' : ¬ (k : Int) + 1 ≤ (K0 : Int) := by omega
          go_wp2_with fail
          go_loopw [19] (fun x wr => ∃ j : Nat, j ≤ n ∧ x = .int .i64 j ∧ Turn no wo wr) (fun x _ => n - (intOf x).toNat)
          case atStart => exact ⟨0, by omega, rfl, Turn.refl _ _⟩
          case round =>
            obtain ⟨j, hj, rfl, TJ⟩ := hrel
            by_cases hjl : j < n
            · have hjl' : (j : Int) < (n : Int) := by omega
              have hd : decide ((tt : Int) ≤ 400) = false := by simpa using q'
              clear hkN
              go_wp2_with fail
              go_quiet (fail)
              go_wp2_with fail
              go_roundw
              case rel => exact ⟨j + 1, by omega, by go_num, TJ.drewN _⟩
              case measure => simp [intOf]; omega
            · have hjn : j = n := by omega
              subst hjn
              have hjl' : ¬ (j : Int) < (j : Int) := by omega
              go_wp2_with fail
              go_ret
              exact ⟨rfl, T.then_no TJ⟩
  · have hL' : (weighE l == 0) = false := by simp; exact hL
    have hL2 : (weighE l != 0) = true := by simp; exact hL
    have c2 := new15_no w1 _ l (h.turn_no T) hL
    have cN := fun W hT => rnew16_no W (.slice va n vcap) l (h.turn_no hT) hb hL
    generalize weighE l = lE at *
    clear ctn
    go_wp2_with fail
    refine c2.mono ?_
    rintro e w2 ⟨rfl, t⟩
    have TA : Turn no w2 (w2.alloc (.cells #[.slice none 0 0] 24)) := (Turn.refl no w2).alloc _
    have T := (T.then_no t).then_no TA
    have c3 := cN _ T
    clear c2 cN
    go_wp2_with fail
    refine c3.mono ?_
    rintro e w3 ⟨rfl, t2⟩
    have TB : Turn no w3 (w3.alloc (.cells #[.slice none 0 0] 24)) := (Turn.refl no w3).alloc _
    have T := (T.then_no t2).then_no TB
    clear c3
    go_wp2_with fail
    go_ret
    exact ⟨rfl, T⟩

set_option maxRecDepth 100000 in
theorem shares_lifted (os : Os) (started : os.Started) (H : Type) (enc : TypeId × Value → H) :
    ReturnsInHanded {} Try.checked os 5 .any (Rows.councilSharesSpec.pre6 enc Try.prog Try.f5 Rows.councilSharesRow.domain false) (Rows.councilSharesSpec.post enc Try.prog Try.f5 false true false false) := by
  refine returnsInHanded_of_change_sized (C := Try.checked) own started (by kernel_rfl) Try.func5
    (ChangeSpec.witness6 (enc := enc) (C := Try.checked) false ⟨#[], #[.slice none 0 0, .int .i64 0], []⟩ 8 (by kernel_rfl) (by kernel_rfl) (by kernel_rfl) (by kernel_rfl)) ?_
  intro W base args ds gs before hval0 hW hcnd hsz _
  have hval : ∀ (j : Nat) t v, Try.f5.params[j]? = some t → args[j]? = some v → Value.okWide Try.prog W .any base t v := hval0
  have hW' := hW
  obtain ⟨p, q, hA0, hV, rfl, hfz, hnd⟩ := hW
  have hA : DataW.TrodAll enc Try.prog W 0 (fun _ => true) true Try.f5.params.toList args.toList ds p := hA0
  rw [Try.params5] at hA hval hsz
  obtain ⟨v0, v1, d0, d1, p0, p1, rfl, rfl, rfl, h0, h1⟩ := trodAll_two hA
  obtain ⟨rfl, rfl⟩ := trodVars_none hV
  have k0 := h0
  have k1 := h1
  have lt0 : ∀ x ∈ p0, x.block < W.heap.size := by obtain ⟨m, hm⟩ := k0; exact DataW.trod_lt m _ _ _ hm
  have lt1 : ∀ x ∈ p1, x.block < W.heap.size := by obtain ⟨m, hm⟩ := k1; exact DataW.trod_lt m _ _ _ hm
  obtain ⟨a0, l0, c0, rfl⟩ := okWide_slice Try.underlying22 (hval 0 22 v0 rfl rfl)
  obtain ⟨zz, rfl⟩ := okWide_int Try.underlying3 (hval 1 3 v1 rfl rfl)
  obtain ⟨m0, t0⟩ := h0
  obtain ⟨m1, t1⟩ := h1
  obtain ⟨l, M, hw⟩ := open_ms (v := .slice a0 l0 c0) t0
  obtain ⟨z, hz, _, wz⟩ := DataW.trod_int Try.underlying3 t1
  have hv1 : zz = z := by
    have e : ([Value.int .i64 zz] : List Value) = [.int .i64 z] := hz
    simpa using e
  subst hv1
  have hbb := i64_of wz
  have hle : l.length * 24 ≤ 140737488351232 := by
    rcases hw with rfl | ⟨es, sp, hy, hl⟩
    · simp
    · have hsz' : (DataW.weightsEach Try.prog [22, 3] [d0, d1]).all (· ≤ reachBytes) = true := hsz
      have := sized_slice hsz' (j := 0) (t := 22) (e := 44) (elems := es) (spare := sp) rfl (by rw [← hy]; rfl) Try.underlying22
      rw [bytes44] at this
      simp [reachBytes] at this
      omega
  clear hA0 hval0
  refine (shares_any W _ l zz M hle hbb.1 hbb.2).mono fun e W' ⟨he, tt⟩ => ?_
  subst he
  have bel := tt.below
  exact ⟨_, rfl, _, _, _, [], _, [], hW', trodAll_mk1 (shut_bool Try.underlying4 _), (trodAll_mk2 (Below.trod laidOut (by kernel_rfl) (of_decide_eq_true (by kernel_rfl)) k0 bel lt0) (Below.trod laidOut (by kernel_rfl) (of_decide_eq_true (by kernel_rfl)) k1 bel lt1)), rfl, bel.frame _, fun h => by cases h⟩

theorem shares_holds : Rows.CouncilSharesSaid :=
  OpenClaim.holds_of_wide 5 Try.f5 rfl rfl rfl rfl rfl rfl rfl ⟨rfl, rfl, rfl, rfl, rfl⟩ rfl rfl rfl rfl rfl (by kernel_rfl) Try.func5 (by kernel_rfl)
    (of_decide_eq_true (by kernel_rfl)) (by unfold Func.isWrapper; first | (rw [if_pos (by decide +kernel)]; kernel_rfl) | (rw [if_neg (by decide +kernel)]; exact ⟨rfl, rfl⟩))
    (fun os started H enc _ => shares_lifted os started H enc)
#print axioms shares_holds
end Go.Proofs.Ytcmoocoklhjkfaa
