/- Forms of a list of accounts, on both sides. -/
import Derived.Test.YtlacfenenbblaaaGreatDoorP1
import Derived.Test.YtlacfenenbblaaaGreatDoorK1
import Derived.Test.YtlacfenenbblaaaGreatDoorY1
import Derived.Laws.MakeOwn
import Derived.Laws.OwnMore
namespace Go.Proofs.YtlacfenenbblaaaGreatDoor
open Go.RowKit
set_option linter.unusedVariables false

structure Il (B : Nat) (w : World) (vi : Value) (us : List Value) (l : List (List UInt8)) : Prop where
  own : Own w 48 vi us
  bf : ∀ g, vi.ownBlock = some g → B ≤ g
  tx : ∀ (j : Nat) (m : List UInt8), l[j]? = some m → ∃ u, us[j]? = some u ∧ Own w 5 u (m.map bv) ∧ ∀ g, u.ownBlock = some g → B ≤ g
theorem own_ne {w : World} {e e' : TypeId} {v v' : Value} {xs xs' : List Value} (h : Own w e v xs) (h' : Own w e' v' xs') (he : e ≠ e') : ∀ g, v.ownBlock = some g → ¬ (v'.ownBlock = some g) := by
  intro g hg hg'
  rcases h.shape with ⟨rfl, _⟩ | ⟨g1, c1, u1, rfl, o1, _⟩
  · cases hg
  rcases h'.shape with ⟨rfl, _⟩ | ⟨g2, c2, u2, rfl, o2, _⟩
  · cases hg'
  have q1 : g1 = g := by simpa [Value.ownBlock] using hg
  have q2 : g2 = g := by simpa [Value.ownBlock] using hg'
  subst q1
  subst q2
  rw [o1] at o2
  cases o2
  exact he rfl
theorem Il.turn_no {B : Nat} {w w' : World} {vi : Value} {us : List Value} {l : List (List UInt8)} (h : Il B w vi us l) (t : Turn no w w') : Il B w' vi us l :=
  ⟨h.own.turn_no t, h.bf, fun j m q => by
    obtain ⟨u, h1, h2, h3⟩ := h.tx j m q
    exact ⟨u, h1, h2.turn_no t, h3⟩⟩
theorem at_last {α : Type} {l : List α} {x : α} {j : Nat} {y : α} (h : (l ++ [x])[j]? = some y) : (j < l.length ∧ l[j]? = some y) ∨ (j = l.length ∧ y = x) := by
  by_cases hj : j < l.length
  · rw [List.getElem?_append_left hj] at h
    exact .inl ⟨hj, h⟩
  · have hj2 := (List.getElem?_eq_some_iff.1 h).1
    simp at hj2
    have e : j = l.length := by omega
    subst e
    simp at h
    exact .inr ⟨rfl, h.symm⟩
/-- One more, appended. -/
theorem Il.push {B : Nat} {w w' : World} {vi vi' u : Value} {us : List Value} {l : List (List UInt8)} {m : List UInt8} (h : Il B w vi us l) (hl : us.length = l.length) (hB : B ≤ w.heap.size) (Ou : Own w 5 u (m.map bv)) (fu : ∀ g, u.ownBlock = some g → B ≤ g) (O : Own w' 48 vi' (us ++ [u])) (G : Grew w w' vi vi') : Il B w' vi' (us ++ [u]) (l ++ [m]) :=
  ⟨O, G.fresh h.bf hB, fun j x q => by
    rcases at_last q with ⟨hj, q⟩ | ⟨rfl, rfl⟩
    · obtain ⟨u', h1, h2, h3⟩ := h.tx j x q
      exact ⟨u', by rw [List.getElem?_append_left (by omega)]; exact h1, h2.turn G.turn (fun g hg q' => own_ne h.own h2 (by decide) g q' hg), h3⟩
    · exact ⟨u, by rw [← hl]; simp, Ou.turn G.turn (fun g hg q' => own_ne h.own Ou (by decide) g q' hg), fu⟩⟩
/-- One more, stored at its place. -/
theorem Il.put {B : Nat} {w w' : World} {vi u : Value} {us : List Value} {l : List (List UInt8)} {m : List UInt8} {g : Nat} (h : Il B w vi us l) (hl : l.length < us.length) (hg : vi.ownBlock = some g) (Ou : Own w 5 u (m.map bv)) (fu : ∀ g, u.ownBlock = some g → B ≤ g) (O : Own w' 48 vi (us.set l.length u)) (t : Turn (fun k => k = g) w w') : Il B w' vi (us.set l.length u) (l ++ [m]) :=
  ⟨O, h.bf, fun j x q => by
    rcases at_last q with ⟨hj, q⟩ | ⟨rfl, rfl⟩
    · obtain ⟨u', h1, h2, h3⟩ := h.tx j x q
      exact ⟨u', by rw [List.getElem?_set_ne (by omega)]; exact h1, h2.turn t (fun g' hg' q' => own_ne h.own h2 (by decide) g' (by rw [q', hg]) hg'), h3⟩
    · exact ⟨u, by simp [hl], Ou.turn t (fun g' hg' q' => own_ne h.own Ou (by decide) g' (by rw [q', hg]) hg'), fu⟩⟩
theorem Il.turnB {B : Nat} {w w' : World} {vi : Value} {us : List Value} {l : List (List UInt8)} (h : Il B w vi us l) (t : Turn (fun q => q < B) w w') : Il B w' vi us l :=
  ⟨h.own.turn t (fun g hg q => by have := h.bf g hg; have q' : g < B := q; omega), h.bf, fun j m q => by
    obtain ⟨u, h1, h2, h3⟩ := h.tx j m q
    exact ⟨u, h1, h2.turn t (fun g hg q => by have := h3 g hg; have q' : g < B := q; omega), h3⟩⟩
/-- The row as a list of items. -/
theorem Il.bl {B : Nat} {w : World} {vi : Value} {us : List Value} {l : List (List UInt8)} (h : Il B w vi us l) (hl : us.length = l.length) (hn : l.length ≤ 65536) : ∃ (a : Option Addr) (cap : Nat) (its : Its), vi = .slice a its.length cap ∧ (∀ W, Turn (fun q => q < B) w W → BlAt W a cap its) ∧ txs its = l := by
  have hz : (us.zip (l)).length = l.length := by rw [List.length_zip, hl]; omega
  have ht : txs (us.zip (l)) = l := by unfold txs; exact List.map_snd_zip (by rw [hl]; omega)
  rcases h.own.shape with ⟨hv, hu⟩ | ⟨g, cap, cur, hv, _, h1, h2, _⟩
  · refine ⟨none, 0, us.zip (l), by rw [hv, hz, ← hl, hu]; rfl, fun W _ => ⟨by rw [hz, ← hl, hu]; simp, by simp [maxLen], by rw [hz]; omega, .inl ?_⟩, ht⟩
    rw [hu]; simp
  · refine ⟨some ⟨g, 0, none⟩, cap, us.zip (l), by rw [hv, hz, hl], fun W t => ⟨by rw [hz, ← hl]; exact h1, h2, by rw [hz]; omega, .inr ⟨g, 0, rfl, fun j x hx => ?_⟩⟩, ht⟩
    have h := h.turnB t
    have hj : j < l.length := by have := (List.getElem?_eq_some_iff.1 hx).1; omega
    obtain ⟨u, f1, f2, _⟩ := h.tx j l[j] (List.getElem?_eq_getElem hj)
    have hx2 : x = (u, l[j]) := by
      rw [List.getElem?_zip_eq_some] at hx
      obtain ⟨q1, q2⟩ := hx
      rw [f1] at q1
      rw [List.getElem?_eq_getElem hj] at q2
      simp at q1 q2
      exact Prod.ext q1.symm q2.symm
    subst hx2
    refine ⟨?_, f2.bs⟩
    have hO := h.own
    rw [hv] at hO
    have := hO.cell j _ f1
    simpa using this
theorem info74f : (Tryz.prog.info? 48).map (fun i => (i.zero, i.size, i.bytes)) = some (some (.slice none 0 0), 1, 24) := by kernel_rfl
theorem Own.setAt {w : World} {e : TypeId} {g n cap : Nat} {xs : List Value} (h : Own w e (.slice (some ⟨g, 0, none⟩) n cap) xs) (k : Nat) (u : Value) : Own (w.setCell ⟨g, k, none⟩ u) e (.slice (some ⟨g, 0, none⟩) n cap) (xs.set k u) := by
  rcases h.shape with ⟨e1, _⟩ | ⟨g', cap', cur, e1, hg, h1, h2, h3, h4⟩
  · cases e1
  · cases e1
    have := Own.of (w := w.setCell ⟨g, k, none⟩ u) (e := e) (xs := xs.set k u) (g := g) (cap := cap) (cur := cur.setIfInBounds k u) (heap_setCell_same w g k cur e u hg) (by simpa using h1) h2 (by simpa using h3) (by
      rw [Array.toList_setIfInBounds, List.length_set, List.take_set, h4])
    simpa using this
theorem mk61 (w : World) (n : Nat) (hn : n ≤ 65536) : (Instr.makeSlice 42 (.int .i64 n) (.int .i64 n)).run Tryz.prog w = .ok (.slice (some ⟨w.heap.size, 0, none⟩) n n) (w.alloc (.cells (madeCells #[.slice none 0 0] n) 48)) := by
  obtain ⟨i, hi, hz0, hz1, hz2⟩ := info_parts info74f
  have := run_make (P := Tryz.prog) w 42 48 i (.slice none 0 0) Tryz.underlying42 hi hz0 .i64 .i64 n n (by omega) (Int.le_refl _) (by rw [hz2]; omega) (by omega)
  rw [hz1, show (Value.slice none 0 0).cells = #[.slice none 0 0] from rfl] at this
  simpa using this
theorem mk_own (w : World) (n : Nat) (hn : n ≤ 65536) : Own (w.alloc (.cells (madeCells #[.slice none 0 0] n) 48)) 48 (.slice (some ⟨w.heap.size, 0, none⟩) n n) (List.replicate n (.slice none 0 0)) := by
  have hl : (madeCells #[.slice none 0 0] n).toList = List.replicate n (.slice none 0 0) := toList_madeCells_one _ _
  have := Own.of (w := w.alloc (.cells (madeCells #[.slice none 0 0] n) 48)) (e := 48) (xs := List.replicate n (.slice none 0 0)) (g := w.heap.size) (cap := n) (cur := madeCells #[.slice none 0 0] n) (heap_alloc_new w _) (by simp) (by simp only [maxLen]; omega) (by rw [← Array.length_toList, hl]; simp) (by rw [hl]; simp)
  simpa using this
def rtT (T : List (List UInt8)) : List UInt8 := 2 :: (numE T.length ++ topH T)
theorem root_its {its : Its} {T : List (List UInt8)} (h : txs its = T) (hn : T.length ≤ 65536) (hb : ∀ x ∈ T, x.length ≤ 1048576) : rootH its = hashOf (rtT T) ∧ rootE its = 0 := by
  have hl : its.length = T.length := by rw [← txs_len, h]
  have hbig : bigOf (txs its) = false := (big_of its).2 ⟨by omega, fun x hx => hb x.2 (by rw [← h]; exact List.mem_map_of_mem hx)⟩
  refine ⟨?_, ?_⟩
  · unfold rootH
    rw [hbig]
    unfold rootT rtT
    rw [h, hl]
    rfl
  · unfold rootE
    rw [hbig]
    rfl
theorem src_cell (w : World) (v : Value) (hv : v.oneCell' = true) : Src Tryz.prog 1 42 (.slice (some ⟨w.heap.size, 0, none⟩) 1 1) 1 [v] (w.alloc (.cells #[v] 48)) := by
  refine Src.ofSlice _ Tryz.underlying42 _ _ _ _ rfl (fun j u hu => ?_) (fun u hu => ?_)
  · rw [Addr.add_lit, cell_of_row _ w.heap.size (0 + j) #[v] 48 (0, 0) (heap_alloc_new w _)]
    simpa using hu
  · simp only [List.mem_cons, List.not_mem_nil, or_false] at hu
    subst hu
    exact hv
theorem Il.slot {B : Nat} {w : World} {gi n k : Nat} {us : List Value} {l : List (List UInt8)} (h : Il B w (.slice (some ⟨gi, 0, none⟩) n n) us l) (hk : k < us.length) : (∃ u0, w.cell? ⟨gi, k, none⟩ = some u0) ∧ w.frozen? ⟨gi, k, none⟩ = false := by
  refine ⟨⟨us[k], ?_⟩, ?_⟩
  · have := h.own.cell k _ (List.getElem?_eq_getElem hk)
    simpa using this
  · rcases h.own.shape with ⟨e, _⟩ | ⟨g', cap', cur, e, ho, _⟩
    · cases e
    · have eg := congrArg Value.ownBlock e
      simp [Value.ownBlock] at eg
      subst eg
      exact frozen_of_row w gi k _ 48 ho
theorem ac_form (m : Ac) : (acs m).toArray = #[.int .u64 m.ad, .int .u64 m.bal, .int .u64 m.bond, .int .u64 m.nonce, .bool m.jail] := rfl
def forms (l : List Ac) : List (List UInt8) := l.map formB
/-- What a list of forms is, in new memory. -/
def Fs (w : World) (l : List Ac) (e : Ending) (w' : World) : Prop := ∃ a cap its, e = .returned (.slice a its.length cap) ∧ (∀ W, Turn (fun q => q < w.heap.size) w' W → BlAt W a cap its) ∧ txs its = forms l ∧ Turn no w w'
set_option maxRecDepth 100000 in
set_option maxHeartbeats 8000000 in
theorem forms20 (w : World) (v : Value) (l : List Ac) (h : As w v l) (hl : l.length ≤ 65536) : Calls Tryz.prog 25 #[v] w (Fs w l) := by
  obtain ⟨a, cap, rfl, HA0⟩ := h
  have HT := shut HA0
  have hle : l.length ≤ 9223372036854775807 := by omega
  have HK : Shut (∀ m ∈ l, m.ok) := HA0.ok
  have HC : Shut (∀ m ∈ l, ∀ W, Calls Tryz.prog 55 #[.agg (acs m).toArray] W fun e w' => ∃ v, e = .returned v ∧ Fr W w' v (formB m)) := fun m hm W => form31 W m (HK.out m hm)
  clear HA0
  obtain ⟨n, hln⟩ : ∃ n, Hid (l.length = n) := ⟨_, rfl⟩
  rw [show l.length = n from hln.out] at hl hle ⊢
  have hmk := mk61 w n hl
  have O1 := mk_own w n hl
  obtain ⟨w2, hw2⟩ : ∃ w2, w.alloc (.cells (madeCells #[.slice none 0 0] n) 48) = w2 := ⟨_, rfl⟩
  have t2 : Turn no w w2 := by rw [← hw2]; exact (Turn.refl no w).alloc _
  rw [hw2] at O1 hmk
  have Ht2 := shut t2
  have HO1 := shut O1
  clear O1 t2 hw2
  go_enter Tryz.func25, Tryz.ntmps25
  go_wp2_with fail
  generalize hgi0 : w.heap.size = gi at *
  have HG := shut hgi0
  clear hgi0
  go_loopw [11] (fun x wr => ∃ (k : Nat) (us : List Value), k ≤ n ∧ x = .int .i64 k ∧ Shut (Il w.heap.size wr (.slice (some ⟨gi, 0, none⟩) n n) us ((l.take k).map formB) ∧ us.length = n ∧ Turn no w wr)) (fun x _ => n - (intOf x).toNat)
  case atStart => exact ⟨0, List.replicate n (.slice none 0 0), by omega, rfl, ⟨⟨HO1.out, (fun g q => by cases q; rw [HG.out]; exact Nat.le_refl _), (fun j m q => by simp at q)⟩, by simp, Ht2.out⟩⟩
  case round =>
    obtain ⟨k, us, hk, rfl, HI⟩ := hrel
    obtain ⟨kI, kL, kT⟩ := HI.out
    by_cases hlt : k < n
    · have hlt' : (k : Int) < (n : Int) := by omega
      obtain ⟨m, hm⟩ : ∃ m, l[k]? = some m := ⟨l[k]'(by rw [hln.out]; exact hlt), List.getElem?_eq_getElem _⟩
      have hmm := List.mem_of_getElem? hm
      obtain ⟨b, off, rfl, c0, c1, c2, c3, c4⟩ := (HT.out.turn_no kT).cells k m hm
      have HM := shut hm
      have HCm := shut (HC.out m hmm)
      have hsz := kT.size
      clear hm hmm HC HT
      have hs2 : (Tryz.prog.info? 38).map (·.size) = some (acs m).toArray.size := by kernel_rfl
      obtain ⟨w3, hw3⟩ : ∃ w3, wr.alloc (.cells (acs m).toArray 38) = w3 := ⟨_, rfl⟩
      have T3 : Turn no wr w3 := by rw [← hw3]; exact (Turn.refl no wr).alloc _
      have R3 : Row w3 wr.heap.size (acs m).toArray 38 := by rw [← hw3]; exact Row.new wr _ 38
      rw [ac_form] at hw3
      have c11 := HCm.out w3
      clear HCm
      go_upto_region 5 with fail
      try rw [hw3]
      clear hw3 c0 c1 c2 c3 c4
      generalize wr.heap.size = g7 at *
      generalize (acs m).toArray = EA at *
      have kI3 := kI.turn_no T3
      go_wp2_with (first | (guard_target =~ wpList _ _ _ ({ dst := _, op := Op.load 38 _, .. } :: _) _ _; refine wpList_load_row rfl 38 (.tmp 5) rfl g7 rfl 38 EA _ _ R3 Tryz.underlying38 rfl hs2 ?_) | (go_at_call 55; refine c11.mono ?_; clear c11; rintro e w4 ⟨v4, rfl, F4⟩; obtain ⟨a4, l4, c4, rfl⟩ := F4.own.form; have I4 := kI3.turn_no F4.turn; obtain ⟨⟨u0, cg⟩, fz⟩ := I4.slot (k := k) (by rw [kL]; exact hlt)))
      have T4 := T3.then_no F4.turn
      have hll : ((l.take k).map formB).length = k := by rw [List.length_map, List.length_take, hln.out]; omega
      have TS := (Turn.refl (fun b => b = gi) w4).setCell (p := ⟨gi, k, none⟩) (fun _ => rfl) (.slice a4 l4 c4)
      have O5 := I4.own.setAt k (.slice a4 l4 c4)
      have HN : Shut (Il w.heap.size (w4.setCell ⟨gi, k, none⟩ (.slice a4 l4 c4)) (.slice (some ⟨gi, 0, none⟩) n n) (us.set k (.slice a4 l4 c4)) ((l.take (k + 1)).map formB) ∧ (us.set k (Value.slice a4 l4 c4)).length = n ∧ Turn no w (w4.setCell ⟨gi, k, none⟩ (.slice a4 l4 c4))) := shut (by
        have q3 : Turn no w (w4.setCell ⟨gi, k, none⟩ (.slice a4 l4 c4)) := (kT.then_no T4).trans TS (fun i hi e => by
          have e' : i = gi := e
          have := HG.out
          omega)
        refine ⟨?_, by rw [List.length_set]; exact kL, q3⟩
        rw [List.take_add_one, HM.out, Option.toList_some, List.map_append]
        have := I4.put (m := formB m) (u := .slice a4 l4 c4) (g := gi) (w' := w4.setCell ⟨gi, k, none⟩ (.slice a4 l4 c4)) (by rw [hll, kL]; exact hlt) rfl F4.own (fun g hg => by have := F4.new g hg; have := T3.size; have := kT.size; omega) (by rw [hll]; exact O5) TS
        rw [hll] at this
        exact this)
      clear I4 F4 T4 T3 TS O5 R3 HI kI kI3 kL kT HM
      go_wp2_with fail
      go_roundw
      case rel => exact ⟨k + 1, _, by omega, by go_num, HN⟩
      case measure => simp [intOf]; omega
    · have hlt' : ¬ (k : Int) < (n : Int) := by omega
      have HE : Shut (Il w.heap.size wr (.slice (some ⟨gi, 0, none⟩) n n) us (l.map formB) ∧ us.length = (l.map formB).length ∧ Turn no w wr) := shut (by
        have e : l.take k = l := by rw [List.take_of_length_le (by rw [hln.out]; omega)]
        refine ⟨?_, by rw [kL, List.length_map, hln.out], kT⟩
        rwa [e] at kI)
      clear HI kI kL kT HC HT
      go_wp2_with fail
      go_ret
      obtain ⟨xa, xc, its, e1, B1, e2⟩ := HE.out.1.bl HE.out.2.1 (by rw [List.length_map, hln.out]; exact hl)
      exact ⟨xa, xc, its, by rw [e1]; rfl, B1, e2, HE.out.2.2⟩
set_option maxRecDepth 100000 in
set_option maxHeartbeats 8000000 in
theorem rforms27 (w : World) (v : Value) (r : Value) (l : List Ac) (h : As w v l) (hl : l.length ≤ 65536) (b s : Int) : Calls Tryz.prog 9 #[.agg #[v, r, .int .u64 b, .int .u64 s]] w (Fs w l) := by
  obtain ⟨a, cap, rfl, HA0⟩ := h
  have HK : Shut (∀ m ∈ l, m.ok) := HA0.ok
  have HC : Shut (∀ m ∈ l, ∀ W, Calls Tryz.prog 11 #[.agg (acs m).toArray] W fun e w' => ∃ v, e = .returned v ∧ Fr W w' v (formB m)) := fun m hm W => rform17 W m (HK.out m hm)
  obtain ⟨n, hln⟩ : ∃ n, Hid (l.length = n) := ⟨_, rfl⟩
  have hle : n ≤ 9223372036854775807 := by have := hln.out; omega
  obtain ⟨w0, hw0⟩ : ∃ w0, w.alloc (.cells #[.slice a n cap, r, .int .u64 b, .int .u64 s] 26) = w0 := ⟨_, rfl⟩
  have T0 : Turn no w w0 := by rw [← hw0]; exact (Turn.refl no w).alloc _
  have RL : Row w0 w.heap.size #[.slice a n cap, r, .int .u64 b, .int .u64 s] 26 := by rw [← hw0]; exact Row.new w _ 26
  have HT := shut (HA0.turn_no T0)
  have HY : Shut (∀ W, Turn no w0 W → W.cell? ⟨w.heap.size, 0, none⟩ = some (.slice a n cap)) := fun W t => t.keep (RL.cell 0 _ rfl) (fun q => q)
  rw [show l.length = n from hln.out] at hl ⊢
  have HT0 := shut T0
  clear HA0 RL T0
  go_enter Tryz.func9, Tryz.ntmps9
  go_upto_region 1 with fail
  try rw [hw0]
  clear hw0
  go_wp2_with fail
  go_loopw [3, 4] (fun vi x wr => ∃ (k : Nat) (us : List Value), k ≤ n ∧ x = .int .i64 k ∧ Shut (Il w0.heap.size wr vi us ((l.take k).map formB) ∧ us.length = k ∧ Turn no w0 wr)) (fun _ x _ => n - (intOf x).toNat)
  case atStart => exact ⟨0, [], by omega, rfl, ⟨⟨Own.nil _ _, (fun g q => by cases q), (fun j m q => by simp at q)⟩, rfl, Turn.refl _ _⟩⟩
  case round =>
    obtain ⟨k, us, hk, rfl, HI⟩ := hrel
    obtain ⟨kI, kL, kT⟩ := HI.out
    obtain ⟨va, vn, vc, rfl⟩ := kI.own.form
    have y0 := HY.out wr kT
    by_cases hlt : k < n
    · have hlt' : (k : Int) < (n : Int) := by omega
      obtain ⟨m, hm⟩ : ∃ m, l[k]? = some m := ⟨l[k]'(by rw [hln.out]; exact hlt), List.getElem?_eq_getElem _⟩
      have hmm := List.mem_of_getElem? hm
      obtain ⟨bb, off, rfl, c0, c1, c2, c3, c4⟩ := (HT.out.turn_no kT).cells k m hm
      have HM := shut hm
      have cF := HC.out m hmm wr
      rw [ac_form] at cF
      clear hm hmm HC HT
      go_wp2_with (first | (go_at_call 11; refine cF.mono ?_; clear cF; rintro e w5 ⟨v5, rfl, F5⟩; obtain ⟨a5, l5, c5, rfl⟩ := F5.own.form) | (at_builtin; refine wpList_append_src rfl (.tmp 12) (.tmp 19) rfl Tryz.underlying42 info74f rfl _ us rfl ((kI.turn_no (F5.turn.alloc _)).own) _ 1 [.slice a5 l5 c5] rfl (src_cell w5 (.slice a5 l5 c5) rfl) (by rw [kL]; omega) (by rw [kL]; simp only [maxLen]; omega) ?_; intro v6 w6 o6 g6 _; obtain ⟨a6, l6, c6, rfl⟩ := o6.form))
      have I4 := kI.turn_no (F5.turn.alloc (.cells #[.slice a5 l5 c5] 48))
      have hszs := kT.size
      have HN : Shut (Il w0.heap.size w6 (.slice a6 l6 c6) (us ++ [.slice a5 l5 c5]) ((l.take (k + 1)).map formB) ∧ (us ++ [Value.slice a5 l5 c5]).length = k + 1 ∧ Turn no w0 w6) := shut (by
        refine ⟨?_, by rw [List.length_append, kL]; rfl, ?_⟩
        · rw [List.take_add_one, HM.out, Option.toList_some, List.map_append]
          exact I4.push (m := formB m) (by rw [kL, List.length_map, List.length_take, hln.out]; omega) (by have := F5.turn.size; simp; omega) (F5.own.turn_no ((Turn.refl _ _).alloc _)) (fun g hg => by have := F5.new g hg; omega) o6 g6
        · exact (kT.then_no (F5.turn.alloc _)).grown g6.grown (fun g q hg => by have := kI.bf g q; omega))
      clear I4 o6 g6 F5 HI kI kL kT HM
      go_wp2_with fail
      go_roundw
      case rel => exact ⟨k + 1, _, by omega, by go_num, HN⟩
      case measure => simp [intOf]; omega
    · have hlt' : ¬ (k : Int) < (n : Int) := by omega
      have HE : Shut (Il w0.heap.size wr (.slice va vn vc) us (l.map formB) ∧ us.length = (l.map formB).length ∧ Turn no w wr) := shut (by
        have e : l.take k = l := by rw [List.take_of_length_le (by rw [hln.out]; omega)]
        refine ⟨?_, by rw [kL, List.length_map, hln.out]; omega, HT0.out.then_no kT⟩
        rwa [e] at kI)
      clear HI kI kL kT HC HT
      go_wp2_with fail
      go_ret
      obtain ⟨xa, xc, its, e1, B1, e2⟩ := HE.out.1.bl HE.out.2.1 (by rw [List.length_map, hln.out]; exact hl)
      exact ⟨xa, xc, its, by rw [e1]; rfl, fun W t => B1 W (t.mono (fun i _ q => by have q' : i < w.heap.size := q; have := HT0.out.size; show i < w0.heap.size; omega)), e2, HE.out.2.2⟩
end Go.Proofs.YtlacfenenbblaaaGreatDoor

