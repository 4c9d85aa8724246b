/- Texts in one. -/
import Derived.Test.YtaoigopjfelgpaaGreatDoorP1
import Derived.Test.YtaoigopjfelgpaaGreatDoorYx
import Derived.Laws.MakeOwn
import Derived.Laws.OwnMore
import Derived.Test.YtaoigopjfelgpaaGreatDoorGa
import Derived.Test.YtaoigopjfelgpaaGreatDoorJa
import Derived.Test.YtaoigopjfelgpaaGreatDoorDa
/- Forms of a list of accounts, on both sides. -/
namespace Go.Proofs.YtaoigopjfelgpaaGreatDoor
open Go.RowKit
set_option linter.unusedVariables false

structure Il (B : Nat) (w : World) (vi : Value) (us : List Value) (l : List (List UInt8)) : Prop where
  own : Own w 94 vi us
  bf : ∀ g, vi.ownBlock = some g → B ≤ g
  tx : ∀ (j : Nat) (m : List UInt8), l[j]? = some m → ∃ u, us[j]? = some u ∧ Own w 5 u (m.map bv) ∧ ∀ g, u.ownBlock = some g → B ≤ g
theorem own_ne {w : World} {e e' : TypeId} {v v' : Value} {xs xs' : List Value} (h : Own w e v xs) (h' : Own w e' v' xs') (he : e ≠ e') : ∀ g, v.ownBlock = some g → ¬ (v'.ownBlock = some g) := by
  intro g hg hg'
  rcases h.shape with ⟨rfl, _⟩ | ⟨g1, c1, u1, rfl, o1, _⟩
  · cases hg
  rcases h'.shape with ⟨rfl, _⟩ | ⟨g2, c2, u2, rfl, o2, _⟩
  · cases hg'
  have q1 : g1 = g := by simpa [Value.ownBlock] using hg
  have q2 : g2 = g := by simpa [Value.ownBlock] using hg'
  subst q1
  subst q2
  rw [o1] at o2
  cases o2
  exact he rfl
theorem Il.turn_no {B : Nat} {w w' : World} {vi : Value} {us : List Value} {l : List (List UInt8)} (h : Il B w vi us l) (t : Turn no w w') : Il B w' vi us l :=
  ⟨h.own.turn_no t, h.bf, fun j m q => by
    obtain ⟨u, h1, h2, h3⟩ := h.tx j m q
    exact ⟨u, h1, h2.turn_no t, h3⟩⟩
theorem at_last {α : Type} {l : List α} {x : α} {j : Nat} {y : α} (h : (l ++ [x])[j]? = some y) : (j < l.length ∧ l[j]? = some y) ∨ (j = l.length ∧ y = x) := by
  by_cases hj : j < l.length
  · rw [List.getElem?_append_left hj] at h
    exact .inl ⟨hj, h⟩
  · have hj2 := (List.getElem?_eq_some_iff.1 h).1
    simp at hj2
    have e : j = l.length := by omega
    subst e
    simp at h
    exact .inr ⟨rfl, h.symm⟩
/-- One more, appended. -/
theorem Il.push {B : Nat} {w w' : World} {vi vi' u : Value} {us : List Value} {l : List (List UInt8)} {m : List UInt8} (h : Il B w vi us l) (hl : us.length = l.length) (hB : B ≤ w.heap.size) (Ou : Own w 5 u (m.map bv)) (fu : ∀ g, u.ownBlock = some g → B ≤ g) (O : Own w' 94 vi' (us ++ [u])) (G : Grew w w' vi vi') : Il B w' vi' (us ++ [u]) (l ++ [m]) :=
  ⟨O, G.fresh h.bf hB, fun j x q => by
    rcases at_last q with ⟨hj, q⟩ | ⟨rfl, rfl⟩
    · obtain ⟨u', h1, h2, h3⟩ := h.tx j x q
      exact ⟨u', by rw [List.getElem?_append_left (by omega)]; exact h1, h2.turn G.turn (fun g hg q' => own_ne h.own h2 (by decide) g q' hg), h3⟩
    · exact ⟨u, by rw [← hl]; simp, Ou.turn G.turn (fun g hg q' => own_ne h.own Ou (by decide) g q' hg), fu⟩⟩
/-- One more, stored at its place. -/
theorem Il.put {B : Nat} {w w' : World} {vi u : Value} {us : List Value} {l : List (List UInt8)} {m : List UInt8} {g : Nat} (h : Il B w vi us l) (hl : l.length < us.length) (hg : vi.ownBlock = some g) (Ou : Own w 5 u (m.map bv)) (fu : ∀ g, u.ownBlock = some g → B ≤ g) (O : Own w' 94 vi (us.set l.length u)) (t : Turn (fun k => k = g) w w') : Il B w' vi (us.set l.length u) (l ++ [m]) :=
  ⟨O, h.bf, fun j x q => by
    rcases at_last q with ⟨hj, q⟩ | ⟨rfl, rfl⟩
    · obtain ⟨u', h1, h2, h3⟩ := h.tx j x q
      exact ⟨u', by rw [List.getElem?_set_ne (by omega)]; exact h1, h2.turn t (fun g' hg' q' => own_ne h.own h2 (by decide) g' (by rw [q', hg]) hg'), h3⟩
    · exact ⟨u, by simp [hl], Ou.turn t (fun g' hg' q' => own_ne h.own Ou (by decide) g' (by rw [q', hg]) hg'), fu⟩⟩
theorem Il.turnB {B : Nat} {w w' : World} {vi : Value} {us : List Value} {l : List (List UInt8)} (h : Il B w vi us l) (t : Turn (fun q => q < B) w w') : Il B w' vi us l :=
  ⟨h.own.turn t (fun g hg q => by have := h.bf g hg; have q' : g < B := q; omega), h.bf, fun j m q => by
    obtain ⟨u, h1, h2, h3⟩ := h.tx j m q
    exact ⟨u, h1, h2.turn t (fun g hg q => by have := h3 g hg; have q' : g < B := q; omega), h3⟩⟩
/-- The row as a list of items. -/
theorem Il.bl {B : Nat} {w : World} {vi : Value} {us : List Value} {l : List (List UInt8)} (h : Il B w vi us l) (hl : us.length = l.length) (hn : l.length ≤ 65536) : ∃ (a : Option Addr) (cap : Nat) (its : Its), vi = .slice a its.length cap ∧ (∀ W, Turn (fun q => q < B) w W → BlAt W a cap its) ∧ txs its = l := by
  have hz : (us.zip (l)).length = l.length := by rw [List.length_zip, hl]; omega
  have ht : txs (us.zip (l)) = l := by unfold txs; exact List.map_snd_zip (by rw [hl]; omega)
  rcases h.own.shape with ⟨hv, hu⟩ | ⟨g, cap, cur, hv, _, h1, h2, _⟩
  · refine ⟨none, 0, us.zip (l), by rw [hv, hz, ← hl, hu]; rfl, fun W _ => ⟨by rw [hz, ← hl, hu]; simp, by simp [maxLen], by rw [hz]; omega, .inl ?_⟩, ht⟩
    rw [hu]; simp
  · refine ⟨some ⟨g, 0, none⟩, cap, us.zip (l), by rw [hv, hz, hl], fun W t => ⟨by rw [hz, ← hl]; exact h1, h2, by rw [hz]; omega, .inr ⟨g, 0, rfl, fun j x hx => ?_⟩⟩, ht⟩
    have h := h.turnB t
    have hj : j < l.length := by have := (List.getElem?_eq_some_iff.1 hx).1; omega
    obtain ⟨u, f1, f2, _⟩ := h.tx j l[j] (List.getElem?_eq_getElem hj)
    have hx2 : x = (u, l[j]) := by
      rw [List.getElem?_zip_eq_some] at hx
      obtain ⟨q1, q2⟩ := hx
      rw [f1] at q1
      rw [List.getElem?_eq_getElem hj] at q2
      simp at q1 q2
      exact Prod.ext q1.symm q2.symm
    subst hx2
    refine ⟨?_, f2.bs⟩
    have hO := h.own
    rw [hv] at hO
    have := hO.cell j _ f1
    simpa using this
theorem info74f : (Tryz.prog.info? 94).map (fun i => (i.zero, i.size, i.bytes)) = some (some (.slice none 0 0), 1, 24) := by kernel_rfl
theorem Own.setAt {w : World} {e : TypeId} {g n cap : Nat} {xs : List Value} (h : Own w e (.slice (some ⟨g, 0, none⟩) n cap) xs) (k : Nat) (u : Value) : Own (w.setCell ⟨g, k, none⟩ u) e (.slice (some ⟨g, 0, none⟩) n cap) (xs.set k u) := by
  rcases h.shape with ⟨e1, _⟩ | ⟨g', cap', cur, e1, hg, h1, h2, h3, h4⟩
  · cases e1
  · cases e1
    have := Own.of (w := w.setCell ⟨g, k, none⟩ u) (e := e) (xs := xs.set k u) (g := g) (cap := cap) (cur := cur.setIfInBounds k u) (heap_setCell_same w g k cur e u hg) (by simpa using h1) h2 (by simpa using h3) (by
      rw [Array.toList_setIfInBounds, List.length_set, List.take_set, h4])
    simpa using this
theorem mk61 (w : World) (n : Nat) (hn : n ≤ 65536) : (Instr.makeSlice 87 (.int .i64 n) (.int .i64 n)).run Tryz.prog w = .ok (.slice (some ⟨w.heap.size, 0, none⟩) n n) (w.alloc (.cells (madeCells #[.slice none 0 0] n) 94)) := by
  obtain ⟨i, hi, hz0, hz1, hz2⟩ := info_parts info74f
  have := run_make (P := Tryz.prog) w 87 94 i (.slice none 0 0) Tryz.underlying87 hi hz0 .i64 .i64 n n (by omega) (Int.le_refl _) (by rw [hz2]; omega) (by omega)
  rw [hz1, show (Value.slice none 0 0).cells = #[.slice none 0 0] from rfl] at this
  simpa using this
theorem mk_own (w : World) (n : Nat) (hn : n ≤ 65536) : Own (w.alloc (.cells (madeCells #[.slice none 0 0] n) 94)) 94 (.slice (some ⟨w.heap.size, 0, none⟩) n n) (List.replicate n (.slice none 0 0)) := by
  have hl : (madeCells #[.slice none 0 0] n).toList = List.replicate n (.slice none 0 0) := toList_madeCells_one _ _
  have := Own.of (w := w.alloc (.cells (madeCells #[.slice none 0 0] n) 94)) (e := 94) (xs := List.replicate n (.slice none 0 0)) (g := w.heap.size) (cap := n) (cur := madeCells #[.slice none 0 0] n) (heap_alloc_new w _) (by simp) (by simp only [maxLen]; omega) (by rw [← Array.length_toList, hl]; simp) (by rw [hl]; simp)
  simpa using this
def rtT (T : List (List UInt8)) : List UInt8 := 2 :: (numE T.length ++ topH T)
theorem root_its {its : Its} {T : List (List UInt8)} (h : txs its = T) (hn : T.length ≤ 65536) (hb : ∀ x ∈ T, x.length ≤ 1048576) : rootH its = hashOf (rtT T) ∧ rootE its = 0 := by
  have hl : its.length = T.length := by rw [← txs_len, h]
  have hbig : bigOf (txs its) = false := (big_of its).2 ⟨by omega, fun x hx => hb x.2 (by rw [← h]; exact List.mem_map_of_mem hx)⟩
  refine ⟨?_, ?_⟩
  · unfold rootH
    rw [hbig]
    unfold rootT rtT
    rw [h, hl]
    rfl
  · unfold rootE
    rw [hbig]
    rfl
theorem src_cell (w : World) (v : Value) (hv : v.oneCell' = true) : Src Tryz.prog 1 87 (.slice (some ⟨w.heap.size, 0, none⟩) 1 1) 1 [v] (w.alloc (.cells #[v] 94)) := by
  refine Src.ofSlice _ Tryz.underlying87 _ _ _ _ rfl (fun j u hu => ?_) (fun u hu => ?_)
  · rw [Addr.add_lit, cell_of_row _ w.heap.size (0 + j) #[v] 94 (0, 0) (heap_alloc_new w _)]
    simpa using hu
  · simp only [List.mem_cons, List.not_mem_nil, or_false] at hu
    subst hu
    exact hv
theorem Il.slot {B : Nat} {w : World} {gi n k : Nat} {us : List Value} {l : List (List UInt8)} (h : Il B w (.slice (some ⟨gi, 0, none⟩) n n) us l) (hk : k < us.length) : (∃ u0, w.cell? ⟨gi, k, none⟩ = some u0) ∧ w.frozen? ⟨gi, k, none⟩ = false := by
  refine ⟨⟨us[k], ?_⟩, ?_⟩
  · have := h.own.cell k _ (List.getElem?_eq_getElem hk)
    simpa using this
  · rcases h.own.shape with ⟨e, _⟩ | ⟨g', cap', cur, e, ho, _⟩
    · cases e
    · have eg := congrArg Value.ownBlock e
      simp [Value.ownBlock] at eg
      subst eg
      exact frozen_of_row w gi k _ 94 ho
theorem ac_form (m : Ac) : (acs m).toArray = #[.int .u64 m.ad, .int .u64 m.bal, .int .u64 m.bond, .int .u64 m.nonce, .bool m.jail] := rfl
def forms (l : List Ac) : List (List UInt8) := l.map formB
/-- What a list of forms is, in new memory. -/
def Fs (w : World) (l : List Ac) (e : Ending) (w' : World) : Prop := ∃ a cap its, e = .returned (.slice a its.length cap) ∧ (∀ W, Turn (fun q => q < w.heap.size) w' W → BlAt W a cap its) ∧ txs its = forms l ∧ Turn no w w'
set_option maxRecDepth 100000 in
set_option maxHeartbeats 8000000 in
theorem forms20 (w : World) (v : Value) (l : List Ac) (h : As w v l) (hl : l.length ≤ 65536) : Calls Tryz.prog 43 #[v] w (Fs w l) := by
  obtain ⟨a, cap, rfl, HA0⟩ := h
  have HT := shut HA0
  have hle : l.length ≤ 9223372036854775807 := by omega
  have HK : Shut (∀ m ∈ l, m.ok) := HA0.ok
  have HC : Shut (∀ m ∈ l, ∀ W, Calls Tryz.prog 68 #[.agg (acs m).toArray] W fun e w' => ∃ v, e = .returned v ∧ Fr W w' v (formB m)) := fun m hm W => form31 W m (HK.out m hm)
  clear HA0
  obtain ⟨n, hln⟩ : ∃ n, Hid (l.length = n) := ⟨_, rfl⟩
  rw [show l.length = n from hln.out] at hl hle ⊢
  have hmk := mk61 w n hl
  have O1 := mk_own w n hl
  obtain ⟨w2, hw2⟩ : ∃ w2, w.alloc (.cells (madeCells #[.slice none 0 0] n) 94) = w2 := ⟨_, rfl⟩
  have t2 : Turn no w w2 := by rw [← hw2]; exact (Turn.refl no w).alloc _
  rw [hw2] at O1 hmk
  have Ht2 := shut t2
  have HO1 := shut O1
  clear O1 t2 hw2
  go_enter Tryz.func43, Tryz.ntmps43
  go_wp2_with fail
  generalize hgi0 : w.heap.size = gi at *
  have HG := shut hgi0
  clear hgi0
  go_loopw [11] (fun x wr => ∃ (k : Nat) (us : List Value), k ≤ n ∧ x = .int .i64 k ∧ Shut (Il w.heap.size wr (.slice (some ⟨gi, 0, none⟩) n n) us ((l.take k).map formB) ∧ us.length = n ∧ Turn no w wr)) (fun x _ => n - (intOf x).toNat)
  case atStart => exact ⟨0, List.replicate n (.slice none 0 0), by omega, rfl, ⟨⟨HO1.out, (fun g q => by cases q; rw [HG.out]; exact Nat.le_refl _), (fun j m q => by simp at q)⟩, by simp, Ht2.out⟩⟩
  case round =>
    obtain ⟨k, us, hk, rfl, HI⟩ := hrel
    obtain ⟨kI, kL, kT⟩ := HI.out
    by_cases hlt : k < n
    · have hlt' : (k : Int) < (n : Int) := by omega
      obtain ⟨m, hm⟩ : ∃ m, l[k]? = some m := ⟨l[k]'(by rw [hln.out]; exact hlt), List.getElem?_eq_getElem _⟩
      have hmm := List.mem_of_getElem? hm
      obtain ⟨b, off, rfl, c0, c1, c2, c3, c4⟩ := (HT.out.turn_no kT).cells k m hm
      have HM := shut hm
      have HCm := shut (HC.out m hmm)
      have hsz := kT.size
      clear hm hmm HC HT
      have hs2 : (Tryz.prog.info? 50).map (·.size) = some (acs m).toArray.size := by kernel_rfl
      obtain ⟨w3, hw3⟩ : ∃ w3, wr.alloc (.cells (acs m).toArray 50) = w3 := ⟨_, rfl⟩
      have T3 : Turn no wr w3 := by rw [← hw3]; exact (Turn.refl no wr).alloc _
      have R3 : Row w3 wr.heap.size (acs m).toArray 50 := by rw [← hw3]; exact Row.new wr _ 50
      rw [ac_form] at hw3
      have c11 := HCm.out w3
      clear HCm
      go_upto_region 5 with fail
      try rw [hw3]
      clear hw3 c0 c1 c2 c3 c4
      generalize wr.heap.size = g7 at *
      generalize (acs m).toArray = EA at *
      have kI3 := kI.turn_no T3
      go_wp2_with (first | (guard_target =~ wpList _ _ _ ({ dst := _, op := Op.load 50 _, .. } :: _) _ _; refine wpList_load_row rfl 50 (.tmp 5) rfl g7 rfl 50 EA _ _ R3 Tryz.underlying50 rfl hs2 ?_) | (go_at_call 68; refine c11.mono ?_; clear c11; rintro e w4 ⟨v4, rfl, F4⟩; obtain ⟨a4, l4, c4, rfl⟩ := F4.own.form; have I4 := kI3.turn_no F4.turn; obtain ⟨⟨u0, cg⟩, fz⟩ := I4.slot (k := k) (by rw [kL]; exact hlt)))
      have T4 := T3.then_no F4.turn
      have hll : ((l.take k).map formB).length = k := by rw [List.length_map, List.length_take, hln.out]; omega
      have TS := (Turn.refl (fun b => b = gi) w4).setCell (p := ⟨gi, k, none⟩) (fun _ => rfl) (.slice a4 l4 c4)
      have O5 := I4.own.setAt k (.slice a4 l4 c4)
      have HN : Shut (Il w.heap.size (w4.setCell ⟨gi, k, none⟩ (.slice a4 l4 c4)) (.slice (some ⟨gi, 0, none⟩) n n) (us.set k (.slice a4 l4 c4)) ((l.take (k + 1)).map formB) ∧ (us.set k (Value.slice a4 l4 c4)).length = n ∧ Turn no w (w4.setCell ⟨gi, k, none⟩ (.slice a4 l4 c4))) := shut (by
        have q3 : Turn no w (w4.setCell ⟨gi, k, none⟩ (.slice a4 l4 c4)) := (kT.then_no T4).trans TS (fun i hi e => by
          have e' : i = gi := e
          have := HG.out
          omega)
        refine ⟨?_, by rw [List.length_set]; exact kL, q3⟩
        rw [List.take_add_one, HM.out, Option.toList_some, List.map_append]
        have := I4.put (m := formB m) (u := .slice a4 l4 c4) (g := gi) (w' := w4.setCell ⟨gi, k, none⟩ (.slice a4 l4 c4)) (by rw [hll, kL]; exact hlt) rfl F4.own (fun g hg => by have := F4.new g hg; have := T3.size; have := kT.size; omega) (by rw [hll]; exact O5) TS
        rw [hll] at this
        exact this)
      clear I4 F4 T4 T3 TS O5 R3 HI kI kI3 kL kT HM
      go_wp2_with fail
      go_roundw
      case rel => exact ⟨k + 1, _, by omega, by go_num, HN⟩
      case measure => simp [intOf]; omega
    · have hlt' : ¬ (k : Int) < (n : Int) := by omega
      have HE : Shut (Il w.heap.size wr (.slice (some ⟨gi, 0, none⟩) n n) us (l.map formB) ∧ us.length = (l.map formB).length ∧ Turn no w wr) := shut (by
        have e : l.take k = l := by rw [List.take_of_length_le (by rw [hln.out]; omega)]
        refine ⟨?_, by rw [kL, List.length_map, hln.out], kT⟩
        rwa [e] at kI)
      clear HI kI kL kT HC HT
      go_wp2_with fail
      go_ret
      obtain ⟨xa, xc, its, e1, B1, e2⟩ := HE.out.1.bl HE.out.2.1 (by rw [List.length_map, hln.out]; exact hl)
      exact ⟨xa, xc, its, by rw [e1]; rfl, B1, e2, HE.out.2.2⟩
set_option maxRecDepth 100000 in
set_option maxHeartbeats 8000000 in
theorem rforms27 (w : World) (v : Value) (r : Value) (l : List Ac) (h : As w v l) (hl : l.length ≤ 65536) (b s : Int) : Calls Tryz.prog 49 #[.agg #[v, r, .int .u64 b, .int .u64 s]] w (Fs w l) := by
  obtain ⟨a, cap, rfl, HA0⟩ := h
  have HK : Shut (∀ m ∈ l, m.ok) := HA0.ok
  have HC : Shut (∀ m ∈ l, ∀ W, Calls Tryz.prog 74 #[.agg (acs m).toArray] W fun e w' => ∃ v, e = .returned v ∧ Fr W w' v (formB m)) := fun m hm W => rform17 W m (HK.out m hm)
  obtain ⟨n, hln⟩ : ∃ n, Hid (l.length = n) := ⟨_, rfl⟩
  have hle : n ≤ 9223372036854775807 := by have := hln.out; omega
  obtain ⟨w0, hw0⟩ : ∃ w0, w.alloc (.cells #[.slice a n cap, r, .int .u64 b, .int .u64 s] 30) = w0 := ⟨_, rfl⟩
  have T0 : Turn no w w0 := by rw [← hw0]; exact (Turn.refl no w).alloc _
  have RL : Row w0 w.heap.size #[.slice a n cap, r, .int .u64 b, .int .u64 s] 30 := by rw [← hw0]; exact Row.new w _ 30
  have HT := shut (HA0.turn_no T0)
  have HY : Shut (∀ W, Turn no w0 W → W.cell? ⟨w.heap.size, 0, none⟩ = some (.slice a n cap)) := fun W t => t.keep (RL.cell 0 _ rfl) (fun q => q)
  rw [show l.length = n from hln.out] at hl ⊢
  have HT0 := shut T0
  clear HA0 RL T0
  go_enter Tryz.func49, Tryz.ntmps49
  go_upto_region 1 with fail
  try rw [hw0]
  clear hw0
  go_wp2_with fail
  go_loopw [3, 4] (fun vi x wr => ∃ (k : Nat) (us : List Value), k ≤ n ∧ x = .int .i64 k ∧ Shut (Il w0.heap.size wr vi us ((l.take k).map formB) ∧ us.length = k ∧ Turn no w0 wr)) (fun _ x _ => n - (intOf x).toNat)
  case atStart => exact ⟨0, [], by omega, rfl, ⟨⟨Own.nil _ _, (fun g q => by cases q), (fun j m q => by simp at q)⟩, rfl, Turn.refl _ _⟩⟩
  case round =>
    obtain ⟨k, us, hk, rfl, HI⟩ := hrel
    obtain ⟨kI, kL, kT⟩ := HI.out
    obtain ⟨va, vn, vc, rfl⟩ := kI.own.form
    have y0 := HY.out wr kT
    by_cases hlt : k < n
    · have hlt' : (k : Int) < (n : Int) := by omega
      obtain ⟨m, hm⟩ : ∃ m, l[k]? = some m := ⟨l[k]'(by rw [hln.out]; exact hlt), List.getElem?_eq_getElem _⟩
      have hmm := List.mem_of_getElem? hm
      obtain ⟨bb, off, rfl, c0, c1, c2, c3, c4⟩ := (HT.out.turn_no kT).cells k m hm
      have HM := shut hm
      have cF := HC.out m hmm wr
      rw [ac_form] at cF
      clear hm hmm HC HT
      go_wp2_with (first | (go_at_call 74; refine cF.mono ?_; clear cF; rintro e w5 ⟨v5, rfl, F5⟩; obtain ⟨a5, l5, c5, rfl⟩ := F5.own.form) | (at_builtin; refine wpList_append_src rfl (.tmp 12) (.tmp 19) rfl Tryz.underlying87 info74f rfl _ us rfl ((kI.turn_no (F5.turn.alloc _)).own) _ 1 [.slice a5 l5 c5] rfl (src_cell w5 (.slice a5 l5 c5) rfl) (by rw [kL]; omega) (by rw [kL]; simp only [maxLen]; omega) ?_; intro v6 w6 o6 g6 _; obtain ⟨a6, l6, c6, rfl⟩ := o6.form))
      have I4 := kI.turn_no (F5.turn.alloc (.cells #[.slice a5 l5 c5] 94))
      have hszs := kT.size
      have HN : Shut (Il w0.heap.size w6 (.slice a6 l6 c6) (us ++ [.slice a5 l5 c5]) ((l.take (k + 1)).map formB) ∧ (us ++ [Value.slice a5 l5 c5]).length = k + 1 ∧ Turn no w0 w6) := shut (by
        refine ⟨?_, by rw [List.length_append, kL]; rfl, ?_⟩
        · rw [List.take_add_one, HM.out, Option.toList_some, List.map_append]
          exact I4.push (m := formB m) (by rw [kL, List.length_map, List.length_take, hln.out]; omega) (by have := F5.turn.size; simp; omega) (F5.own.turn_no ((Turn.refl _ _).alloc _)) (fun g hg => by have := F5.new g hg; omega) o6 g6
        · exact (kT.then_no (F5.turn.alloc _)).grown g6.grown (fun g q hg => by have := kI.bf g q; omega))
      clear I4 o6 g6 F5 HI kI kL kT HM
      go_wp2_with fail
      go_roundw
      case rel => exact ⟨k + 1, _, by omega, by go_num, HN⟩
      case measure => simp [intOf]; omega
    · have hlt' : ¬ (k : Int) < (n : Int) := by omega
      have HE : Shut (Il w0.heap.size wr (.slice va vn vc) us (l.map formB) ∧ us.length = (l.map formB).length ∧ Turn no w wr) := shut (by
        have e : l.take k = l := by rw [List.take_of_length_le (by rw [hln.out]; omega)]
        refine ⟨?_, by rw [kL, List.length_map, hln.out]; omega, HT0.out.then_no kT⟩
        rwa [e] at kI)
      clear HI kI kL kT HC HT
      go_wp2_with fail
      go_ret
      obtain ⟨xa, xc, its, e1, B1, e2⟩ := HE.out.1.bl HE.out.2.1 (by rw [List.length_map, hln.out]; exact hl)
      exact ⟨xa, xc, its, by rw [e1]; rfl, fun W t => B1 W (t.mono (fun i _ q => by have q' : i < w.heap.size := q; have := HT0.out.size; show i < w0.heap.size; omega)), e2, HE.out.2.2⟩
end Go.Proofs.YtaoigopjfelgpaaGreatDoor


/- The text of what a ledger holds beside its accounts: the document's. -/
namespace Go.Proofs.YtaoigopjfelgpaaGreatDoor
open Go.RowKit
set_option linter.unusedVariables false

def rlB (m : Rl) : List UInt8 := leB m.ht 8 ++ leB m.ad 8 ++ leB m.born 8 ++ leB m.amt 8
theorem rlB_len (m : Rl) : (rlB m).length = 32 := by simp [rlB, leB_length]
def rowsB (r : List Rl) : List UInt8 := r.flatMap rlB
theorem rowsB_len : ∀ (r : List Rl), (rowsB r).length = r.length * 32
  | [] => rfl
  | m :: r => by
    have := rowsB_len r
    unfold rowsB at this ⊢
    rw [List.flatMap_cons, List.length_append, rlB_len, this, List.length_cons]
    omega
theorem rowsB_take {r : List Rl} {k : Nat} {m : Rl} (h : r[k]? = some m) : rowsB (r.take (k + 1)) = rowsB (r.take k) ++ rlB m := by
  rw [List.take_add_one, h]
  simp [rowsB]
/-- What is bound beside the accounts. -/
def restB (b s : Nat) (r : List Rl) : List UInt8 := leB r.length 8 ++ rowsB r ++ leB b 8 ++ leB s 8
theorem restB_len (b s : Nat) (r : List Rl) : (restB b s r).length = 24 + r.length * 32 := by
  simp [restB, leB_length, rowsB_len]
  omega
def rlA (m : Rl) : Array Value := #[.int .u64 m.ht, .int .u64 m.ad, .int .u64 m.born, .int .u64 m.amt]
theorem rowR (W0 : World) (g : Nat) (m : Rl) (R : Row W0 g (rlA m) 67) : ∀ W, Turn no W0 W → W.cell? ⟨g, 0, none⟩ = some (.int .u64 m.ht) ∧ W.cell? ⟨g, 1, none⟩ = some (.int .u64 m.ad) ∧ W.cell? ⟨g, 2, none⟩ = some (.int .u64 m.born) ∧ W.cell? ⟨g, 3, none⟩ = some (.int .u64 m.amt) := fun W t =>
  ⟨t.keep (R.cell 0 _ rfl) (fun q => q), t.keep (R.cell 1 _ rfl) (fun q => q), t.keep (R.cell 2 _ rfl) (fun q => q), t.keep (R.cell 3 _ rfl) (fun q => q)⟩
theorem Row.grew {w w1 : World} {v v' : Value} {xs : List Value} {g : Nat} {X : Array Value} (R : Row w g X 67) (O : Own w 5 v xs) (G : Grew w w1 v v') : Row w1 g X 67 := by
  refine R.turn G.turn (fun q => ?_)
  rcases O.shape with ⟨rfl, _⟩ | ⟨g1, c1, u1, rfl, o1, _⟩
  · cases q
  · have q1 : g1 = g := by simpa [Value.ownBlock] using q
    subst q1
    have := o1.symm.trans R
    simp at this
theorem Fr.post {w w1 w2 : World} {v : Value} {xs : List UInt8} (h : Fr w w1 v xs) (t : Turn no w1 w2) : Fr w w2 v xs := ⟨h.own.turn_no t, h.new, h.turn.then_no t⟩
set_option maxRecDepth 100000 in
set_option maxHeartbeats 16000000 in
theorem rrest29 (w : World) (va vr : Value) (r : List Rl) (hr : Rs w vr r) (hn : r.length ≤ 65536) (b s : Nat) (hb : b < 18446744073709551616) (hs : s < 18446744073709551616) : Calls Tryz.prog 48 #[.agg #[va, vr, .int .u64 b, .int .u64 s]] w fun e w' => ∃ v, e = .returned v ∧ Fr w w' v (restB b s r) := by
  obtain ⟨ad, cap, rfl, HA0⟩ := hr
  have HOK : Shut (∀ m ∈ r, m.ok) := HA0.ok
  obtain ⟨n, hln⟩ : ∃ n, Hid (r.length = n) := ⟨_, rfl⟩
  rw [show r.length = n from hln.out] at hn ⊢
  obtain ⟨w0, hw0⟩ : ∃ w0, w.alloc (.cells #[va, .slice ad n cap, .int .u64 b, .int .u64 s] 30) = w0 := ⟨_, rfl⟩
  have T0 : Turn no w w0 := by rw [← hw0]; exact (Turn.refl no w).alloc _
  have RL : Row w0 w.heap.size #[va, .slice ad n cap, .int .u64 b, .int .u64 s] 30 := by rw [← hw0]; exact Row.new w _ 30
  have HT := shut (HA0.turn_no T0)
  have HY : Shut (∀ W, Turn no w0 W → W.cell? ⟨w.heap.size, 1, none⟩ = some (.slice ad n cap) ∧ W.cell? ⟨w.heap.size, 2, none⟩ = some (.int .u64 b) ∧ W.cell? ⟨w.heap.size, 3, none⟩ = some (.int .u64 s)) := fun W t => ⟨t.keep (RL.cell 1 _ rfl) (fun q => q), t.keep (RL.cell 2 _ rfl) (fun q => q), t.keep (RL.cell 3 _ rfl) (fun q => q)⟩
  have HT0 := shut T0
  have HBS := shut (And.intro hb hs)
  have HE0 : Shut (restB b s r = (leB n 8 ++ rowsB r) ++ leB b 8 ++ leB s 8) := by show _ = _; unfold restB; rw [hln.out]
  rw [HE0.out]
  have hN1 : (n : Int) ≤ 65536 := by omega
  have K := ru64 w0 n (by omega)
  obtain ⟨y1, -, -⟩ := HY.out w0 (Turn.refl no w0)
  clear HA0 RL T0 hb hs
  go_enter Tryz.func48, Tryz.ntmps48
  go_upto_region 1 with fail
  try rw [hw0]
  clear hw0
  go_upto_region 2 with (go_at_call 73; refine K.mono ?_; rintro e w1 ⟨v1, rfl, F1⟩; obtain ⟨a1, l1, p1, rfl⟩ := F1.form)
  have F1 := shut F1
  clear K y1
  go_wp2_with fail
  go_loopw [3, 4] (fun vi x wr => ∃ (k : Nat), k ≤ n ∧ x = .int .i64 k ∧ Shut (Fr w0 wr vi (leB n 8 ++ rowsB (r.take k)))) (fun _ x _ => n - (intOf x).toNat)
  case atStart => exact ⟨0, by omega, rfl, by show Fr _ _ _ _; simpa [rowsB] using F1.out⟩
  case round =>
    obtain ⟨k, hk, rfl, HI⟩ := hrel
    obtain ⟨va0, vn0, vc0, rfl⟩ := HI.out.form
    have hlen : Shut ((leB n 8 ++ rowsB (r.take k)).length ≤ 8 + 65536 * 32) := by
      show _ ≤ _
      rw [List.length_append, leB_length, rowsB_len, List.length_take]
      omega
    obtain ⟨y1, y2, y3⟩ := HY.out wr HI.out.turn
    by_cases hlt : k < n
    · have hlt' : (k : Int) < (n : Int) := by omega
      obtain ⟨m, hm⟩ : ∃ m, r[k]? = some m := ⟨r[k]'(by rw [hln.out]; exact hlt), List.getElem?_eq_getElem _⟩
      have hmm := List.mem_of_getElem? hm
      obtain ⟨bb, off, rfl, c0, c1, c2, c3⟩ := (HT.out.turn_no HI.out.turn).cells k m hm
      have HM := shut (rowsB_take hm)
      have HMO := shut (HOK.out m hmm)
      obtain ⟨w3, hw3⟩ : ∃ w3, wr.alloc (.cells (rlA m) 67) = w3 := ⟨_, rfl⟩
      have T3 : Turn no wr w3 := by rw [← hw3]; exact (Turn.refl no wr).alloc _
      have R3 : Row w3 wr.heap.size (rlA m) 67 := by rw [← hw3]; exact Row.new wr _ 67
      have F3 := shut (HI.out.post T3)
      rw [show rlA m = #[.int .u64 m.ht, .int .u64 m.ad, .int .u64 m.born, .int .u64 m.amt] from rfl] at hw3
      clear hm hmm T3 y2 y3
      generalize hXB : leB n 8 ++ rowsB (r.take k) = XB at *
      have HXB := shut hXB
      clear hXB
      go_upto_region 6 with fail
      try rw [hw3]
      clear hw3 c0 c1 c2 c3 y1
      generalize wr.heap.size = g7 at *
      have R3 := shut R3
      obtain ⟨d0, -, -, -⟩ := rowR w3 g7 m R3.out w3 (Turn.refl no w3)
      have K := ru64 w3 m.ht HMO.out.1
      go_upto_region 7 with (first | (go_at_call 73; refine K.mono ?_; clear K; rintro e u4 ⟨y4, rfl, G4⟩; have hq := G4.own.bs; obtain ⟨b4, k4, q4, rfl⟩ := G4.form; (obtain ⟨v4, w4, hr4, O4, E4, -⟩ := run_append_src (P := Tryz.prog) (t := 94) (tx := 94) Tryz.underlying94 Tryz.info5 rfl 94 u4 _ _ (F3.out.own.turn_no G4.turn) _ _ _ (hq.src (tx := 94) Tryz.underlying94) (by have := hlen.out; simp [leB_length]; omega) (by have := hlen.out; simp [leB_length, maxLen]; omega))) | (guard_target =~ wpList _ _ _ ({ dst := some 27, .. } :: _) _ _; (refine wpList_append_run rfl (.tmp 23) (.tmp 26) rfl _ _ rfl rfl hr4 ?_); (obtain ⟨a4, l4, p4, rfl⟩ := O4.form)))
      have F4 := shut (F3.out.append G4.turn O4 E4)
      have R4 := shut ((R3.out.turn G4.turn (fun q => q)).grew (F3.out.own.turn_no G4.turn) E4)
      clear O4 E4 hq hr4 G4 d0
      obtain ⟨-, d0, -, -⟩ := rowR w4 g7 m R4.out w4 (Turn.refl no w4)
      have K := ru64 w4 m.ad HMO.out.2.1
      go_upto_region 8 with (first | (go_at_call 73; refine K.mono ?_; clear K; rintro e u5 ⟨y5, rfl, G5⟩; have hq := G5.own.bs; obtain ⟨b5, k5, q5, rfl⟩ := G5.form; (obtain ⟨v5, w5, hr5, O5, E5, -⟩ := run_append_src (P := Tryz.prog) (t := 94) (tx := 94) Tryz.underlying94 Tryz.info5 rfl 94 u5 _ _ (F4.out.own.turn_no G5.turn) _ _ _ (hq.src (tx := 94) Tryz.underlying94) (by have := hlen.out; simp [leB_length]; omega) (by have := hlen.out; simp [leB_length, maxLen]; omega))) | (guard_target =~ wpList _ _ _ ({ dst := some 32, .. } :: _) _ _; (refine wpList_append_run rfl (.tmp 28) (.tmp 31) rfl _ _ rfl rfl hr5 ?_); (obtain ⟨a5, l5, p5, rfl⟩ := O5.form)))
      have F5 := shut (F4.out.append G5.turn O5 E5)
      have R5 := shut ((R4.out.turn G5.turn (fun q => q)).grew (F4.out.own.turn_no G5.turn) E5)
      clear O5 E5 hq hr5 G5 d0
      obtain ⟨-, -, d0, -⟩ := rowR w5 g7 m R5.out w5 (Turn.refl no w5)
      have K := ru64 w5 m.born HMO.out.2.2.1
      go_upto_region 9 with (first | (go_at_call 73; refine K.mono ?_; clear K; rintro e u6 ⟨y6, rfl, G6⟩; have hq := G6.own.bs; obtain ⟨b6, k6, q6, rfl⟩ := G6.form; (obtain ⟨v6, w6, hr6, O6, E6, -⟩ := run_append_src (P := Tryz.prog) (t := 94) (tx := 94) Tryz.underlying94 Tryz.info5 rfl 94 u6 _ _ (F5.out.own.turn_no G6.turn) _ _ _ (hq.src (tx := 94) Tryz.underlying94) (by have := hlen.out; simp [leB_length]; omega) (by have := hlen.out; simp [leB_length, maxLen]; omega))) | (guard_target =~ wpList _ _ _ ({ dst := some 37, .. } :: _) _ _; (refine wpList_append_run rfl (.tmp 33) (.tmp 36) rfl _ _ rfl rfl hr6 ?_); (obtain ⟨a6, l6, p6, rfl⟩ := O6.form)))
      have F6 := shut (F5.out.append G6.turn O6 E6)
      have R6 := shut ((R5.out.turn G6.turn (fun q => q)).grew (F5.out.own.turn_no G6.turn) E6)
      clear O6 E6 hq hr6 G6 d0
      obtain ⟨-, -, -, d0⟩ := rowR w6 g7 m R6.out w6 (Turn.refl no w6)
      have K := ru64 w6 m.amt HMO.out.2.2.2
      go_wp2_with (first | (go_at_call 73; refine K.mono ?_; clear K; rintro e u7 ⟨y7, rfl, G7⟩; have hq := G7.own.bs; obtain ⟨b7, k7, q7, rfl⟩ := G7.form; (obtain ⟨v7, w7, hr7, O7, E7, -⟩ := run_append_src (P := Tryz.prog) (t := 94) (tx := 94) Tryz.underlying94 Tryz.info5 rfl 94 u7 _ _ (F6.out.own.turn_no G7.turn) _ _ _ (hq.src (tx := 94) Tryz.underlying94) (by have := hlen.out; simp [leB_length]; omega) (by have := hlen.out; simp [leB_length, maxLen]; omega))) | (guard_target =~ wpList _ _ _ ({ dst := some 42, .. } :: _) _ _; (refine wpList_append_run rfl (.tmp 38) (.tmp 41) rfl _ _ rfl rfl hr7 ?_); (obtain ⟨a7, l7, p7, rfl⟩ := O7.form)))
      have F7 := F6.out.append G7.turn O7 E7
      have HN : Shut (Fr w0 w7 (.slice a7 l7 p7) (leB n 8 ++ rowsB (r.take (k + 1)))) := by
        show Fr _ _ _ _
        rw [HM.out, ← List.append_assoc, HXB.out]
        simpa only [rlB, List.append_assoc] using F7
      clear F7 O7 E7 hq hr7 G7 d0 F3 F4 F5 F6 R3 R4 R5 R6 HI HM HMO HXB
      go_wp2_with fail
      go_roundw
      case rel => exact ⟨k + 1, by omega, by go_num, HN⟩
      case measure => simp [intOf]; omega
    · have hlt' : ¬ (k : Int) < (n : Int) := by omega
      have F3 : Shut (Fr w0 wr (.slice va0 vn0 vc0) (leB n 8 ++ rowsB r)) := by
        have e : r.take k = r := List.take_of_length_le (by rw [hln.out]; omega)
        have := HI.out
        rwa [e] at this
      have hlen : Shut ((leB n 8 ++ rowsB r).length ≤ 8 + 65536 * 32) := by
        show _ ≤ _
        rw [List.length_append, leB_length, rowsB_len, hln.out]
        omega
      clear HT HI y2 y3
      generalize hXB : leB n 8 ++ rowsB r = XB at *
      have HXB := shut hXB
      clear hXB
      obtain ⟨y1, y2, -⟩ := HY.out wr F3.out.turn
      have K := ru64 wr b HBS.out.1
      go_upto_region 11 with (first | (go_at_call 73; refine K.mono ?_; clear K; rintro e u4 ⟨y4, rfl, G4⟩; have hq := G4.own.bs; obtain ⟨b4, k4, q4, rfl⟩ := G4.form; (obtain ⟨v4, w4, hr4, O4, E4, -⟩ := run_append_src (P := Tryz.prog) (t := 94) (tx := 94) Tryz.underlying94 Tryz.info5 rfl 94 u4 _ _ (F3.out.own.turn_no G4.turn) _ _ _ (hq.src (tx := 94) Tryz.underlying94) (by have := hlen.out; simp [leB_length]; omega) (by have := hlen.out; simp [leB_length, maxLen]; omega))) | (guard_target =~ wpList _ _ _ ({ dst := some 47, .. } :: _) _ _; (refine wpList_append_run rfl (.tmp 43) (.tmp 46) rfl _ _ rfl rfl hr4 ?_); (obtain ⟨a4, l4, p4, rfl⟩ := O4.form)))
      have F4 := shut (F3.out.append G4.turn O4 E4)
      clear O4 E4 hq hr4 G4 y1 y2
      obtain ⟨-, -, y3⟩ := HY.out w4 F4.out.turn
      have K := ru64 w4 s HBS.out.2
      go_wp2_with (first | (go_at_call 73; refine K.mono ?_; clear K; rintro e u5 ⟨y5, rfl, G5⟩; have hq := G5.own.bs; obtain ⟨b5, k5, q5, rfl⟩ := G5.form; (obtain ⟨v5, w5, hr5, O5, E5, -⟩ := run_append_src (P := Tryz.prog) (t := 94) (tx := 94) Tryz.underlying94 Tryz.info5 rfl 94 u5 _ _ (F4.out.own.turn_no G5.turn) _ _ _ (hq.src (tx := 94) Tryz.underlying94) (by have := hlen.out; simp [leB_length]; omega) (by have := hlen.out; simp [leB_length, maxLen]; omega))) | (guard_target =~ wpList _ _ _ ({ dst := some 52, .. } :: _) _ _; (refine wpList_append_run rfl (.tmp 48) (.tmp 51) rfl _ _ rfl rfl hr5 ?_); (obtain ⟨a5, l5, p5, rfl⟩ := O5.form)))
      have F5 := F4.out.append G5.turn O5 E5
      go_ret
      exact ⟨_, rfl, by have q := F5.pre HT0.out; rw [← HXB.out] at q; exact q⟩
end Go.Proofs.YtaoigopjfelgpaaGreatDoor


/- The digest of what a ledger holds beside its accounts: the program's. -/
namespace Go.Proofs.YtaoigopjfelgpaaGreatDoor
open Go.RowKit
set_option linter.unusedVariables false

theorem Laid.post {w0 W W' : World} {p : Nat} {v : Value} {bs : List UInt8} (L : Laid w0 p v bs 0 W) (t : Turn no W W') : Laid w0 p v bs 0 W' := by
  obtain ⟨v1, W1, t1, n1⟩ := L
  exact ⟨v1, W1.turn_no t, t1.then_no t, n1⟩
/-- A row of another kind beside the Writer. -/
theorem stepUR {w0 W : World} {p : Nat} {v : Value} {bs : List UInt8} (L : Laid w0 p v bs 0 W) {g : Nat} {X : Array Value} (R : Row W g X 67) (n : Nat) (hn : n < 18446744073709551616) (hle : bs.length + 10 ≤ 140737488355328) :
    Calls Tryz.prog 65 #[.pointer (some ⟨p, 0, none⟩), .int .u64 n] W fun e w' => e = .returned (.tuple #[]) ∧ Laid w0 p v (bs ++ leB n 8) 0 w' ∧ Row w' g X 67 := by
  obtain ⟨v1, W1, t1, n1⟩ := L
  refine (wu64_made W p v1 bs W1 n hn hle).mono ?_
  rintro e w' ⟨rfl, v2, W2, t2, n2⟩
  refine ⟨rfl, ⟨v2, W2, near_turn t1 n1 t2, near_near t1.size n1 n2⟩, R.turn t2 ?_⟩
  rintro (q | q)
  · have q2 : g = p := q
    subst q2
    have := W1.blk.symm.trans R
    simp at this
  · rcases W1.own.shape with ⟨e1, _⟩ | ⟨g1, c1, u1, e1, o1, _⟩
    · rw [e1] at q; cases q
    · rw [e1] at q
      have q1 : g1 = g := by simpa [Value.ownBlock] using q
      subst q1
      have := o1.symm.trans R
      simp at this
set_option maxRecDepth 100000 in
set_option maxHeartbeats 16000000 in
theorem rest22 (w : World) (hl : Laid1 w) (h2 : 2 ≤ w.heap.size) (va vr : Value) (r : List Rl) (hr : Rs w vr r) (hn : r.length ≤ 65536) (b s : Nat) (hb : b < 18446744073709551616) (hs : s < 18446744073709551616) : Calls Tryz.prog 42 #[.agg #[va, vr, .int .u64 b, .int .u64 s]] w fun e w' => e = .returned (.agg (hv (restB b s r))) ∧ Turn no w w' := by
  have hE := restB_len b s r
  have HS : Shut (∀ W v, Turn no w W → Bs W v (restB b s r) → Calls Tryz.prog 67 #[v] W fun e w' => e = .returned (.agg (hv (restB b s r))) ∧ Turn no W w') := fun W v t q => sum19 W v _ q (hl.turn t (fun q => q)) (by have := t.size; omega) (by omega)
  have sD := hv_size (restB b s r)
  have oD := hv_one (restB b s r)
  have iD := hv_info (restB b s r)
  have hZ := hb32_size z32_len
  have hzv := zero35v
  obtain ⟨ad, cap, rfl, HA0⟩ := hr
  have HOK : Shut (∀ m ∈ r, m.ok) := HA0.ok
  obtain ⟨n, hln⟩ : ∃ n, Hid (r.length = n) := ⟨_, rfl⟩
  have HE0 : Shut (restB b s r = (leB n 8 ++ rowsB r) ++ leB b 8 ++ leB s 8) := by show _ = _; unfold restB; rw [hln.out]
  generalize hv (restB b s r) = D at *
  generalize restB b s r = RB at *
  rw [show r.length = n from hln.out] at hn ⊢
  obtain ⟨w0, hw0⟩ : ∃ w0, (w.alloc (.cells #[va, .slice ad n cap, .int .u64 b, .int .u64 s] 30)).alloc (.cells (hb32 z32) 40) = w0 := ⟨_, rfl⟩
  have T0 : Turn no w w0 := by rw [← hw0]; exact ((Turn.refl no w).alloc _).alloc _
  have RL : Row w0 w.heap.size #[va, .slice ad n cap, .int .u64 b, .int .u64 s] 30 := by rw [← hw0]; exact (Row.new w _ 30).alloc _
  have RZ : Row w0 (w.heap.size + 1) (hb32 z32) 40 := by rw [← hw0]; exact Row.newAt _ _ _ _ (by simp)
  generalize hb32 z32 = Z at *
  have HT := shut (HA0.turn_no T0)
  have y1 := RL.cell 1 _ rfl
  have y2 := RL.cell 2 _ rfl
  have y3 := RL.cell 3 _ rfl
  have HY0 := shut (And.intro y1 (And.intro y2 y3))
  have HT0 := shut T0
  have HBS := shut (And.intro hb hs)
  have hN1 : (n : Int) ≤ 65536 := by omega
  have HNW := newWriter_any w0
  have hRZ := RZ.lt
  clear HA0 RL T0 hb hs y1 y2 y3 hl
  go_enter Tryz.func42, Tryz.ntmps42
  go_upto_region 1 with fail
  try rw [hw0]
  clear hw0 hzv
  go_upto_region 2 with (go_at_call 64; refine HNW.mono ?_; clear HNW; rintro e w1 ⟨rfl, W1, t1⟩)
  obtain ⟨p, hp⟩ : ∃ p, w0.heap.size = p := ⟨_, rfl⟩
  rw [hp] at W1 hRZ ⊢
  have hwp : w.heap.size ≤ p := by rw [← hp]; exact HT0.out.size
  have hw1p : p ≤ w1.heap.size := by have := W1.lt; omega
  have HSZ := shut (And.intro hwp (And.intro hw1p hRZ))
  have L1 := shut (Laid.refl W1)
  have HC : Shut (∀ B W, Laid w1 p (.slice none 0 0) B 0 W → ∀ b o u, w0.cell? ⟨b, o, none⟩ = some u → W.cell? ⟨b, o, none⟩ = some u) := fun B W L b o u hu => by
    refine L.cell ?_ (t1.keep hu (fun q => q))
    rintro (q | q)
    · have q2 : b = p := q
      have h9 : b < w0.heap.size := World.block_lt_of_cell? w0 _ hu
      omega
    · cases q
  have HRZ : Shut (∀ B W, Laid w1 p (.slice none 0 0) B 0 W → Row W (w.heap.size + 1) Z 40) := fun B W L => by
    obtain ⟨_, _, t, _⟩ := L
    refine (RZ.turn t1 (fun q => q)).turn t ?_
    rintro (q | q)
    · have q2 : w.heap.size + 1 = p := q
      omega
    · cases q
  have HT1 := shut (HT0.out.then_no t1)
  have RZ1 := shut (RZ.turn t1 (fun q => q))
  clear t1 W1 hp RZ hwp hw1p hRZ
  have y1 := HC.out _ _ L1.out _ _ _ HY0.out.1
  have K := stepU L1.out n (by omega) (by simp)
  go_upto_region 3 with (go_at_call 65; refine K.mono ?_; clear K; rintro e w2 ⟨rfl, L2⟩)
  rw [List.nil_append] at L2
  have L2 := shut L2
  clear y1 L1
  have y1 := HC.out _ _ L2.out _ _ _ HY0.out.1
  go_wp2_with fail
  clear y1
  go_loopw [18] (fun x wr => ∃ (k : Nat), k ≤ n ∧ x = .int .i64 k ∧ Shut (Laid w1 p (.slice none 0 0) (leB n 8 ++ rowsB (r.take k)) 0 wr)) (fun x _ => n - (intOf x).toNat)
  case atStart => exact ⟨0, by omega, rfl, by show Laid _ _ _ _ _ _; simpa [rowsB] using L2.out⟩
  case round =>
    obtain ⟨k, hk, rfl, HI⟩ := hrel
    have hlen : Shut ((leB n 8 ++ rowsB (r.take k)).length ≤ 8 + 65536 * 32) := by
      show _ ≤ _
      rw [List.length_append, leB_length, rowsB_len, List.length_take]
      omega
    by_cases hlt : k < n
    · have hlt' : (k : Int) < (n : Int) := by omega
      obtain ⟨m, hm⟩ : ∃ m, r[k]? = some m := ⟨r[k]'(by rw [hln.out]; exact hlt), List.getElem?_eq_getElem _⟩
      have hmm := List.mem_of_getElem? hm
      obtain ⟨bb, off, rfl, c0, c1, c2, c3⟩ := HT.out.cells k m hm
      have c0 := HC.out _ _ HI.out _ _ _ c0
      have c1 := HC.out _ _ HI.out _ _ _ c1
      have c2 := HC.out _ _ HI.out _ _ _ c2
      have c3 := HC.out _ _ HI.out _ _ _ c3
      have HM := shut (rowsB_take hm)
      have HMO := shut (HOK.out m hmm)
      obtain ⟨w3, hw3⟩ : ∃ w3, wr.alloc (.cells (rlA m) 67) = w3 := ⟨_, rfl⟩
      have T3 : Turn no wr w3 := by rw [← hw3]; exact (Turn.refl no wr).alloc _
      have R3 : Row w3 wr.heap.size (rlA m) 67 := by rw [← hw3]; exact Row.new wr _ 67
      have F3 := shut (HI.out.post T3)
      rw [show rlA m = #[.int .u64 m.ht, .int .u64 m.ad, .int .u64 m.born, .int .u64 m.amt] from rfl] at hw3
      clear hm hmm T3
      generalize hXB : leB n 8 ++ rowsB (r.take k) = XB at *
      have HXB := shut hXB
      clear hXB
      go_upto_region 6 with fail
      try rw [hw3]
      clear hw3 c0 c1 c2 c3
      generalize wr.heap.size = g7 at *
      have R3 := shut R3
      obtain ⟨d0, -, -, -⟩ := rowR w3 g7 m R3.out w3 (Turn.refl no w3)
      have K := stepUR F3.out R3.out m.ht HMO.out.1 (by have := hlen.out; omega)
      go_upto_region 7 with (go_at_call 65; refine K.mono ?_; clear K; rintro e w4 ⟨rfl, F4, R4⟩)
      have F4 := shut F4
      have R4 := shut R4
      clear d0
      obtain ⟨-, d0, -, -⟩ := rowR w4 g7 m R4.out w4 (Turn.refl no w4)
      have K := stepUR F4.out R4.out m.ad HMO.out.2.1 (by have := hlen.out; simp [leB_length]; omega)
      go_upto_region 8 with (go_at_call 65; refine K.mono ?_; clear K; rintro e w5 ⟨rfl, F5, R5⟩)
      have F5 := shut F5
      have R5 := shut R5
      clear d0
      obtain ⟨-, -, d0, -⟩ := rowR w5 g7 m R5.out w5 (Turn.refl no w5)
      have K := stepUR F5.out R5.out m.born HMO.out.2.2.1 (by have := hlen.out; simp [leB_length]; omega)
      go_upto_region 9 with (go_at_call 65; refine K.mono ?_; clear K; rintro e w6 ⟨rfl, F6, R6⟩)
      have F6 := shut F6
      have R6 := shut R6
      clear d0
      obtain ⟨-, -, -, d0⟩ := rowR w6 g7 m R6.out w6 (Turn.refl no w6)
      have K := stepUR F6.out R6.out m.amt HMO.out.2.2.2 (by have := hlen.out; simp [leB_length]; omega)
      go_upto_region 10 with (go_at_call 65; refine K.mono ?_; clear K; rintro e w7 ⟨rfl, F7, -⟩)
      have HN : Shut (Laid w1 p (.slice none 0 0) (leB n 8 ++ rowsB (r.take (k + 1))) 0 w7) := by
        show Laid _ _ _ _ _ _
        rw [HM.out, ← List.append_assoc, HXB.out]
        simpa only [rlB, List.append_assoc] using F7
      clear F7 d0 F3 F4 F5 F6 R3 R4 R5 R6 HI HM HMO HXB
      go_wp2_with fail
      go_roundw
      case rel => exact ⟨k + 1, by omega, by go_num, HN⟩
      case measure => simp [intOf]; omega
    · have hlt' : ¬ (k : Int) < (n : Int) := by omega
      have F3 : Shut (Laid w1 p (.slice none 0 0) (leB n 8 ++ rowsB r) 0 wr) := by
        have e : r.take k = r := List.take_of_length_le (by rw [hln.out]; omega)
        have := HI.out
        rwa [e] at this
      have hlen : Shut ((leB n 8 ++ rowsB r).length ≤ 8 + 65536 * 32) := by
        show _ ≤ _
        rw [List.length_append, leB_length, rowsB_len, hln.out]
        omega
      clear HT HI L2
      generalize hXB : leB n 8 ++ rowsB r = XB at *
      have HXB := shut hXB
      clear hXB
      have y2 := HC.out _ _ F3.out _ _ _ HY0.out.2.1
      have K := stepU F3.out b HBS.out.1 (by have := hlen.out; omega)
      go_upto_region 12 with (go_at_call 65; refine K.mono ?_; clear K; rintro e w4 ⟨rfl, F4⟩)
      have F4 := shut F4
      clear y2
      have y3 := HC.out _ _ F4.out _ _ _ HY0.out.2.2
      have K := stepU F4.out s HBS.out.2 (by have := hlen.out; simp [leB_length]; omega)
      go_upto_region 13 with (go_at_call 65; refine K.mono ?_; clear K; rintro e w5 ⟨rfl, F5⟩)
      have F5 := shut F5
      clear y3
      have hs5 : Shut (w1.heap.size ≤ w5.heap.size) := by
        obtain ⟨_, _, t, _⟩ := F5.out
        exact t.size
      have K := stepO F5.out (by have := hlen.out; simp [leB_length]; omega)
      rw [show (XB ++ leB b 8 ++ leB s 8) = RB from HE0.out.symm] at K
      have HTR : Shut (∀ W, Turn (wfoot p (.slice none 0 0)) w1 W → Turn no w W ∧ Row W (w.heap.size + 1) Z 40) := fun W t => ⟨HT1.out.trans t (fun i hi q => by
        rcases q with q | q
        · have q2 : i = p := q
          have := HSZ.out.1
          omega
        · cases q), RZ1.out.turn t (by
        rintro (q | q)
        · have q2 : w.heap.size + 1 = p := q
          have := HSZ.out.2.2
          omega
        · cases q)⟩
      clear HC HRZ F3 F4
      go_wp2_with (first | (go_at_call 66; refine K.mono ?_; clear K; rintro e w6 ⟨v6, rfl, o6, n6, t6⟩; obtain ⟨a6, l6, c6, rfl⟩ := o6.form; obtain ⟨T6, RZ6⟩ := HTR.out w6 t6; have K2 := HS.out w6 _ T6 o6.bs) | (go_at_call 67; refine K2.mono ?_; clear K2; rintro e w7 ⟨rfl, t7⟩; have RZ7 := RZ6.turn t7 (fun q => q)) | (guard_target =~ wpList _ _ _ ({ dst := _, op := Op.store 40 _ _, .. } :: _) _ _; refine wpList_store_row rfl 40 (.tmp 2) (.tmp 53) rfl (w.heap.size + 1) D rfl rfl 40 Z RZ7 iD (by rw [hZ, sD]) oD ?_))
      refine bodyPost_ret (v := .agg D) ?_ rfl ⟨rfl, (T6.then_no t7).setRow _ _ (fun q => by omega)⟩
      exact results_cell_row (P := Tryz.prog) Tryz.results42 _ _ (w.heap.size + 1) 40 D (0, 0) _ rfl (setRow_heap _ _ _ _ _ _ RZ7) Tryz.underlying40 rfl iD
end Go.Proofs.YtaoigopjfelgpaaGreatDoor

