/- Texts in one. -/
import Derived.Test.YtgimecdmleofeaaDoorFb
import Derived.Test.YtgimecdmleofeaaDoorZa
import Derived.Test.YtgimecdmleofeaaDoorZb
/- rootOf: forms in a row, and their root. -/
namespace Go.Proofs.YtgimecdmleofeaaDoor
open Go.RowKit
set_option linter.unusedVariables false

structure Il (B : Nat) (w : World) (vi : Value) (us : List Value) (l : List (List UInt8)) : Prop where
  own : Own w 70 vi us
  bf : ∀ g, vi.ownBlock = some g → B ≤ g
  tx : ∀ (j : Nat) (m : List UInt8), l[j]? = some m → ∃ u, us[j]? = some u ∧ Own w 5 u (m.map bv) ∧ ∀ g, u.ownBlock = some g → B ≤ g
theorem own_ne {w : World} {e e' : TypeId} {v v' : Value} {xs xs' : List Value} (h : Own w e v xs) (h' : Own w e' v' xs') (he : e ≠ e') : ∀ g, v.ownBlock = some g → ¬ (v'.ownBlock = some g) := by
  intro g hg hg'
  rcases h.shape with ⟨rfl, _⟩ | ⟨g1, c1, u1, rfl, o1, _⟩
  · cases hg
  rcases h'.shape with ⟨rfl, _⟩ | ⟨g2, c2, u2, rfl, o2, _⟩
  · cases hg'
  have q1 : g1 = g := by simpa [Value.ownBlock] using hg
  have q2 : g2 = g := by simpa [Value.ownBlock] using hg'
  subst q1
  subst q2
  rw [o1] at o2
  cases o2
  exact he rfl
theorem Il.turn_no {B : Nat} {w w' : World} {vi : Value} {us : List Value} {l : List (List UInt8)} (h : Il B w vi us l) (t : Turn no w w') : Il B w' vi us l :=
  ⟨h.own.turn_no t, h.bf, fun j m q => by
    obtain ⟨u, h1, h2, h3⟩ := h.tx j m q
    exact ⟨u, h1, h2.turn_no t, h3⟩⟩
theorem at_last {α : Type} {l : List α} {x : α} {j : Nat} {y : α} (h : (l ++ [x])[j]? = some y) : (j < l.length ∧ l[j]? = some y) ∨ (j = l.length ∧ y = x) := by
  by_cases hj : j < l.length
  · rw [List.getElem?_append_left hj] at h
    exact .inl ⟨hj, h⟩
  · have hj2 := (List.getElem?_eq_some_iff.1 h).1
    simp at hj2
    have e : j = l.length := by omega
    subst e
    simp at h
    exact .inr ⟨rfl, h.symm⟩
/-- One more, appended. -/
theorem Il.push {B : Nat} {w w' : World} {vi vi' u : Value} {us : List Value} {l : List (List UInt8)} {m : List UInt8} (h : Il B w vi us l) (hl : us.length = l.length) (hB : B ≤ w.heap.size) (Ou : Own w 5 u (m.map bv)) (fu : ∀ g, u.ownBlock = some g → B ≤ g) (O : Own w' 70 vi' (us ++ [u])) (G : Grew w w' vi vi') : Il B w' vi' (us ++ [u]) (l ++ [m]) :=
  ⟨O, G.fresh h.bf hB, fun j x q => by
    rcases at_last q with ⟨hj, q⟩ | ⟨rfl, rfl⟩
    · obtain ⟨u', h1, h2, h3⟩ := h.tx j x q
      exact ⟨u', by rw [List.getElem?_append_left (by omega)]; exact h1, h2.turn G.turn (fun g hg q' => own_ne h.own h2 (by decide) g q' hg), h3⟩
    · exact ⟨u, by rw [← hl]; simp, Ou.turn G.turn (fun g hg q' => own_ne h.own Ou (by decide) g q' hg), fu⟩⟩
/-- One more, stored at its place. -/
theorem Il.put {B : Nat} {w w' : World} {vi u : Value} {us : List Value} {l : List (List UInt8)} {m : List UInt8} {g : Nat} (h : Il B w vi us l) (hl : l.length < us.length) (hg : vi.ownBlock = some g) (Ou : Own w 5 u (m.map bv)) (fu : ∀ g, u.ownBlock = some g → B ≤ g) (O : Own w' 70 vi (us.set l.length u)) (t : Turn (fun k => k = g) w w') : Il B w' vi (us.set l.length u) (l ++ [m]) :=
  ⟨O, h.bf, fun j x q => by
    rcases at_last q with ⟨hj, q⟩ | ⟨rfl, rfl⟩
    · obtain ⟨u', h1, h2, h3⟩ := h.tx j x q
      exact ⟨u', by rw [List.getElem?_set_ne (by omega)]; exact h1, h2.turn t (fun g' hg' q' => own_ne h.own h2 (by decide) g' (by rw [q', hg]) hg'), h3⟩
    · exact ⟨u, by simp [hl], Ou.turn t (fun g' hg' q' => own_ne h.own Ou (by decide) g' (by rw [q', hg]) hg'), fu⟩⟩
/-- The row as a list of items. -/
theorem Il.bl {B : Nat} {w : World} {vi : Value} {us : List Value} {l : List (List UInt8)} (h : Il B w vi us l) (hl : us.length = l.length) (hn : l.length ≤ 65536) : ∃ (a : Option Addr) (cap : Nat) (its : Its), vi = .slice a its.length cap ∧ BlAt w a cap its ∧ txs its = l := by
  have hz : (us.zip (l)).length = l.length := by rw [List.length_zip, hl]; omega
  have ht : txs (us.zip (l)) = l := by unfold txs; exact List.map_snd_zip (by rw [hl]; omega)
  rcases h.own.shape with ⟨hv, hu⟩ | ⟨g, cap, cur, hv, _, h1, h2, _⟩
  · refine ⟨none, 0, us.zip (l), by rw [hv, hz, ← hl, hu]; rfl, ⟨by rw [hz, ← hl, hu]; simp, by simp [maxLen], by rw [hz]; omega, .inl ?_⟩, ht⟩
    rw [hu]; simp
  · refine ⟨some ⟨g, 0, none⟩, cap, us.zip (l), by rw [hv, hz, hl], ⟨by rw [hz, ← hl]; exact h1, h2, by rw [hz]; omega, .inr ⟨g, 0, rfl, fun j x hx => ?_⟩⟩, ht⟩
    have hj : j < l.length := by have := (List.getElem?_eq_some_iff.1 hx).1; omega
    obtain ⟨u, f1, f2, _⟩ := h.tx j l[j] (List.getElem?_eq_getElem hj)
    have hx2 : x = (u, l[j]) := by
      rw [List.getElem?_zip_eq_some] at hx
      obtain ⟨q1, q2⟩ := hx
      rw [f1] at q1
      rw [List.getElem?_eq_getElem hj] at q2
      simp at q1 q2
      exact Prod.ext q1.symm q2.symm
    subst hx2
    refine ⟨?_, f2.bs⟩
    have hO := h.own
    rw [hv] at hO
    have := hO.cell j _ f1
    simpa using this
theorem info70 : (Tryd.prog.info? 70).map (fun i => (i.zero, i.size, i.bytes)) = some (some (.slice none 0 0), 1, 24) := by kernel_rfl
theorem Own.setAt {w : World} {e : TypeId} {g n cap : Nat} {xs : List Value} (h : Own w e (.slice (some ⟨g, 0, none⟩) n cap) xs) (k : Nat) (u : Value) : Own (w.setCell ⟨g, k, none⟩ u) e (.slice (some ⟨g, 0, none⟩) n cap) (xs.set k u) := by
  rcases h.shape with ⟨e1, _⟩ | ⟨g', cap', cur, e1, hg, h1, h2, h3, h4⟩
  · cases e1
  · cases e1
    have := Own.of (w := w.setCell ⟨g, k, none⟩ u) (e := e) (xs := xs.set k u) (g := g) (cap := cap) (cur := cur.setIfInBounds k u) (heap_setCell_same w g k cur e u hg) (by simpa using h1) h2 (by simpa using h3) (by
      rw [Array.toList_setIfInBounds, List.length_set, List.take_set, h4])
    simpa using this
theorem mk86 (w : World) (n : Nat) (hn : n ≤ 65536) : (Instr.makeSlice 86 (.int .i64 n) (.int .i64 n)).run Tryd.prog w = .ok (.slice (some ⟨w.heap.size, 0, none⟩) n n) (w.alloc (.cells (madeCells #[.slice none 0 0] n) 70)) := by
  obtain ⟨i, hi, hz0, hz1, hz2⟩ := info_parts info70
  have := run_make (P := Tryd.prog) w 86 70 i (.slice none 0 0) Tryd.underlying86 hi hz0 .i64 .i64 n n (by omega) (Int.le_refl _) (by rw [hz2]; omega) (by omega)
  rw [hz1, show (Value.slice none 0 0).cells = #[.slice none 0 0] from rfl] at this
  simpa using this
theorem mk_own (w : World) (n : Nat) (hn : n ≤ 65536) : Own (w.alloc (.cells (madeCells #[.slice none 0 0] n) 70)) 70 (.slice (some ⟨w.heap.size, 0, none⟩) n n) (List.replicate n (.slice none 0 0)) := by
  have hl : (madeCells #[.slice none 0 0] n).toList = List.replicate n (.slice none 0 0) := toList_madeCells_one _ _
  have := Own.of (w := w.alloc (.cells (madeCells #[.slice none 0 0] n) 70)) (e := 70) (xs := List.replicate n (.slice none 0 0)) (g := w.heap.size) (cap := n) (cur := madeCells #[.slice none 0 0] n) (heap_alloc_new w _) (by simp) (by simp only [maxLen]; omega) (by rw [← Array.length_toList, hl]; simp) (by rw [hl]; simp)
  simpa using this
/-- A thing in a list: its cells, what is wrong with it, its form. -/
structure El where
  cs : List Value
  p : Int
  f : List UInt8
/-- A list of things of sz cells each. -/
structure TsAt (w : World) (sz : Nat) (a : Option Addr) (cap : Nat) (L : List El) : Prop where
  le : L.length ≤ cap
  cap : cap ≤ maxLen
  len : ∀ x ∈ L, x.cs.length = sz
  one : ∀ x ∈ L, ∀ u ∈ x.cs, u.oneCell' = true
  cells : ∀ (j : Nat) x, L[j]? = some x → ∃ b off, a = some ⟨b, off, none⟩ ∧ w.rangeAt b (off + j * sz) x.cs
theorem TsAt.turn_no {w w' : World} {sz : Nat} {a : Option Addr} {cap : Nat} {L : List El} (h : TsAt w sz a cap L) (t : Turn no w w') : TsAt w' sz a cap L :=
  ⟨h.le, h.cap, h.len, h.one, fun j x hj => by
    obtain ⟨b, off, e, c⟩ := h.cells j x hj
    exact ⟨b, off, e, fun i u hu => t.keep (c i u hu) (fun q => q)⟩⟩
def firstP : List El → Int
  | [] => 0
  | x :: r => if x.p = 0 then firstP r else x.p
theorem firstP_at {l : List El} {k : Nat} {v : El} (h : l[k]? = some v) : firstP (l.drop k) = if v.p = 0 then firstP (l.drop (k + 1)) else v.p := by
  obtain ⟨hk, rfl⟩ := List.getElem?_eq_some_iff.1 h
  rw [List.drop_eq_getElem_cons hk]
  rfl
def rtT (T : List (List UInt8)) : List UInt8 := 2 :: (numE T.length ++ topH T)
def rootsE (most : Nat) (L : List El) : Int := if most < L.length then 4 else firstP L
def rootsH (most : Nat) (L : List El) : List UInt8 := if rootsE most L = 0 then hashOf (rtT (L.map (·.f))) else z32
theorem rootsH_len (most : Nat) (L : List El) : (rootsH most L).length = 32 := by
  unfold rootsH
  split
  · exact hashOf_len _
  · rfl
theorem root_its {its : Its} {T : List (List UInt8)} (h : txs its = T) (hn : T.length ≤ 65536) (hb : ∀ x ∈ T, x.length ≤ 1048576) : rootH its = hashOf (rtT T) ∧ rootE its = 0 := by
  have hl : its.length = T.length := by rw [← txs_len, h]
  have hbig : bigOf (txs its) = false := (big_of its).2 ⟨by omega, fun x hx => hb x.2 (by rw [← h]; exact List.mem_map_of_mem hx)⟩
  refine ⟨?_, ?_⟩
  · unfold rootH
    rw [hbig]
    unfold rootT rtT
    rw [h, hl]
    rfl
  · unfold rootE
    rw [hbig]
    rfl
theorem one_arr {cs : List Value} (h : ∀ u ∈ cs, u.oneCell' = true) : cs.toArray.all (·.oneCell') = true := by
  simp only [List.all_toArray, List.all_eq_true]
  exact h
def tx0 : Tx := ⟨0, 0, 0, 0, 0, 0, List.replicate 16 0⟩
def Z27 : Array Value := tx0.cs.toArray
theorem zero27 (w : World) : (zeroValue 27).run Tryd.prog w = .ok (.agg Z27) w := by kernel_rfl
theorem Z27_size : Z27.size = 22 := by kernel_rfl
def ev0 : Ev := ⟨vt0, vt0⟩
def Z80 : Array Value := ev0.cs.toArray
theorem zero80 (w : World) : (zeroValue 80).run Tryd.prog w = .ok (.agg Z80) w := by kernel_rfl
theorem Z80_size : Z80.size = 106 := by kernel_rfl
set_option maxRecDepth 100000 in
set_option maxHeartbeats 8000000 in
theorem rootOf40 (w : World) (hl : Laid1 w) (h2 : 3 ≤ w.heap.size) (most : Nat) (hmo : most ≤ 65536) (a : Option Addr) (cap : Nat) (L : List El) (h : TsAt w 22 a cap L) (hF : ∀ x ∈ L, x.f.length ≤ 1048576)
    (CF : ∀ x ∈ L, ∀ W, Calls Tryd.prog 41 #[.agg x.cs.toArray] W (Told W x.p (if x.p = 0 then x.f else []))) :
    Calls Tryd.prog 40 #[.slice a L.length cap, .int .i64 most, .func (.func 41) #[] #[]] w fun e w' => e = .returned (.tuple #[.agg (hb32 (rootsH most L)), .int .i64 (rootsE most L)]) ∧ Turn no w w' := by
  have hZ := hb32_size z32_len
  have oZ := hb32_one z32
  have iZ := hb32_info z32_len
  have hzv := zero35v
  have hzt := zero27
  have hbd := shut bld35
  obtain ⟨w0, hw0⟩ : ∃ w0, w.alloc (.cells (hb32 z32) 29) = w0 := ⟨_, rfl⟩
  have T0 : Turn no w w0 := by rw [← hw0]; exact (Turn.refl no w).alloc _
  have RZ : Row w0 w.heap.size (hb32 z32) 29 := by rw [← hw0]; exact Row.new w _ 29
  have HT := shut (h.turn_no T0)
  have HTB : Shut (∀ W, Turn no w0 W → Row W w.heap.size (hb32 z32) 29) := ⟨fun W t => Row.turn RZ t (fun q => q)⟩
  have ld := rootsH_len most L
  have sD := hb32_size ld
  have oD := hb32_one (rootsH most L)
  have iD := hb32_info ld
  have hle : L.length ≤ 9223372036854775807 := by have := h.le; have := h.cap; simp only [maxLen] at this; omega
  have HDz : Shut (¬ rootsE most L = 0 → hb32 (rootsH most L) = hb32 z32) := ⟨fun e => by unfold rootsH; rw [if_neg e]⟩
  have HE0 : Shut (rootsE most L = if most < L.length then 4 else firstP L) := ⟨rfl⟩
  by_cases hbig : most < L.length
  · have e4 : rootsE most L = 4 := if_pos hbig
    have hd := HDz.out (by rw [e4]; decide)
    rw [hd, e4]
    have hgt : (most : Int) < (L.length : Int) := by omega
    clear HDz HE0 CF hF HT HTB iD oD sD hbig e4 hd h hl ld hzt
    generalize hb32 z32 = Z at *
    obtain ⟨n, hln⟩ : ∃ n, Hid (L.length = n) := ⟨_, rfl⟩
    rw [show L.length = n from hln.out] at hgt hle ⊢
    go_enter Tryd.func40, Tryd.ntmps40
    go_upto_region 1 with fail
    try rw [hw0]
    clear hw0 hzv
    go_wp2_with (first | (guard_target =~ wpList _ _ _ ({ dst := _, op := Op.build 29 _, .. } :: _) _ _; refine wpList_buildG (by kernel_rfl) 29 rfl _ (hbd.out _) ?_) | (guard_target =~ wpList _ _ _ ({ dst := _, op := Op.store 29 _ _, .. } :: _) _ _; refine wpList_store_row rfl 29 (.tmp 6) (.tmp 17) rfl w.heap.size Z rfl rfl 29 Z RZ iZ rfl oZ ?_))
    refine bodyPost_ret (v := .tuple #[.agg Z, .int .i64 4]) ?_ rfl ⟨rfl, T0.setRow _ _ (fun q => by omega)⟩
    exact results_cell_row_tmp (P := Tryd.prog) Tryd.results40 _ _ w.heap.size 29 Z (0, 0) _ rfl (setRow_heap _ _ _ _ _ _ RZ) Tryd.underlying29 rfl iZ
  · have eE : rootsE most L = firstP L := if_neg hbig
    have hgt : ¬ (most : Int) < (L.length : Int) := by omega
    have hn : L.length ≤ 65536 := by omega
    have HR : Shut (firstP L = 0 → ∀ W, Turn no w W → ∀ a cap its, BlAt W a cap its → txs its = L.map (·.f) → Calls Tryd.prog 80 #[.slice a its.length cap] W fun e w' => e = .returned (.tuple #[.agg (hb32 (rootsH most L)), .int .i64 0]) ∧ Turn no W w') := ⟨fun e W t a cap its B q => by
      have := root7 W a cap its B (hl.turn t (fun q => q)) (by have := t.size; omega)
      obtain ⟨r1, r2⟩ := root_its q (by simpa using hn) (fun x hx => by
        obtain ⟨y, hy, rfl⟩ := List.mem_map.1 hx
        exact hF y hy)
      rw [r1, r2] at this
      have ed : rootsH most L = hashOf (rtT (L.map (·.f))) := if_pos (by rw [eE]; exact e)
      rwa [ed]⟩
    rw [eE] at HDz ⊢
    have HC := shut CF
    clear CF hF HE0 eE hbig h hl ld
    generalize hb32 (rootsH most L) = D at *
    generalize hb32 z32 = Z at *
    obtain ⟨n, hln⟩ : ∃ n, Hid (L.length = n) := ⟨_, rfl⟩
    rw [show L.length = n from hln.out] at hgt hle hn ⊢
    have hmk := mk86 w0 n hn
    have O1 := mk_own w0 n hn
    obtain ⟨w2, hw2⟩ : ∃ w2, w0.alloc (.cells (madeCells #[.slice none 0 0] n) 70) = w2 := ⟨_, rfl⟩
    have t2 : Turn no w0 w2 := by rw [← hw2]; exact (Turn.refl no w0).alloc _
    rw [hw2] at O1 hmk
    have Ht2 := shut t2
    have HO1 := shut O1
    clear RZ O1 t2 hw2
    go_enter Tryd.func40, Tryd.ntmps40
    go_upto_region 1 with fail
    try rw [hw0]
    clear hw0
    go_wp2_with fail
    generalize hgi0 : w0.heap.size = gi at *
    have hgi : w.heap.size < gi := by rw [← hgi0]; have := T0.size; exact Nat.lt_of_lt_of_le (Row.lt (HTB.out w0 (Turn.refl _ _))) (Nat.le_refl _)
    have HG := shut hgi0
    clear hgi0
    go_loopw [23] (fun x wr => ∃ (k : Nat) (us : List Value), k ≤ n ∧ x = .int .i64 k ∧ Shut (Il w0.heap.size wr (.slice (some ⟨gi, 0, none⟩) n n) us ((L.take k).map (·.f)) ∧ us.length = n ∧ Turn no w0 wr ∧ firstP L = firstP (L.drop k))) (fun x _ => n - (intOf x).toNat)
    case atStart => exact ⟨0, List.replicate n (.slice none 0 0), by omega, rfl, ⟨⟨HO1.out, (fun g q => by cases q; rw [HG.out]; exact Nat.le_refl _), (fun j m q => by simp at q)⟩, by simp, Ht2.out, rfl⟩⟩
    case round =>
      obtain ⟨k, us, hk, rfl, HK⟩ := hrel
      obtain ⟨kI, kL, kT, kF⟩ := HK.out
      by_cases hlt : k < n
      · have hlt' : (k : Int) < (n : Int) := by omega
        obtain ⟨m, hm⟩ : ∃ m, L[k]? = some m := ⟨L[k]'(by rw [hln.out]; exact hlt), List.getElem?_eq_getElem _⟩
        have hmm := List.mem_of_getElem? hm
        obtain ⟨b, off, rfl, rM⟩ := (HT.out.turn_no kT).cells k m hm
        have hcl := HT.out.len m hmm
        have hs1 : (Tryd.prog.info? 27).map (·.size) = some m.cs.length := by rw [hcl]; kernel_rfl
        have hs2 : (Tryd.prog.info? 27).map (·.size) = some m.cs.toArray.size := by rw [List.size_toArray, hcl]; kernel_rfl
        have hs3 := one_arr (HT.out.one m hmm)
        have hs4 : Z27.size = m.cs.toArray.size := by rw [Z27_size, List.size_toArray, hcl]
        have HM := shut (And.intro hm (firstP_at hm))
        have HCm := shut (HC.out m hmm)
        have hsz := kT.size
        clear hm hmm hcl HC HT
        generalize hD : m.cs = E at *
        clear hD
        go_upto_region 7 with (first | (guard_target =~ wpList _ _ _ ({ dst := _, op := Op.load 27 _, .. } :: _) _ _; refine wpList_load_mid rfl 27 (.tmp 26) rfl b (off + k * 22) rfl E _ rM Tryd.underlying27 rfl hs1 ?_) | (guard_target =~ wpList _ _ _ ({ dst := _, op := Op.store 27 _ _, .. } :: _) _ _; refine wpList_store_any rfl 27 (.tmp 10) (.tmp 27) rfl wr.heap.size E.toArray rfl rfl 27 Z27 (Row.new wr Z27 27) hs2 hs4 hs3 ?_; intro w3 R3 t3))
        have u3 : Turn (fun q => q = wr.heap.size) wr w3 := ((Turn.refl _ wr).alloc _).trans t3 (fun _ _ e => e)
        have T3 : Turn no wr w3 := u3.mono (fun i hi e => by
          have e' : i = wr.heap.size := e
          omega)
        have c11 := HCm.out w3
        clear u3 t3 rM hs4 hs3 HCm
        generalize wr.heap.size = g7 at *
        generalize E.toArray = EA at *
        go_upto_region 8 with (first | (guard_target =~ wpList _ _ _ ({ dst := _, op := Op.load 27 _, .. } :: _) _ _; refine wpList_load_row rfl 27 (.tmp 10) rfl g7 rfl 27 EA _ _ R3 Tryd.underlying27 rfl hs2 ?_) | (go_at_call 41; refine c11.mono ?_; clear c11; rintro e w4 ⟨v4, rfl, O4, f4, t4⟩; obtain ⟨a4, l4, c4, rfl⟩ := O4.form))
        have T4 := T3.then_no t4
        by_cases hp : m.p = 0
        · rw [if_pos hp] at O4
          have I4 := kI.turn_no T4
          have hll : ((L.take k).map (·.f)).length = k := by rw [List.length_map, List.length_take, hln.out]; omega
          obtain ⟨u0, hu0⟩ : ∃ u0, us[k]? = some u0 := ⟨us[k]'(by rw [kL]; exact hlt), List.getElem?_eq_getElem _⟩
          have cg := I4.own.cell k _ hu0
          have fz : w4.frozen? ⟨gi, k, none⟩ = false := by
            rcases I4.own.shape with ⟨e, _⟩ | ⟨g', cap', cur, e, ho, _⟩
            · cases e
            · have eg := congrArg Value.ownBlock e
              simp [Value.ownBlock] at eg
              subst eg
              exact frozen_of_row w4 gi k _ 70 ho
          have TS := (Turn.refl (fun b => b = gi) w4).setCell (p := ⟨gi, k, none⟩) (fun _ => rfl) (.slice a4 l4 c4)
          have O5 := I4.own.setAt k (.slice a4 l4 c4)
          have HN : Shut (Il w0.heap.size (w4.setCell ⟨gi, k, none⟩ (.slice a4 l4 c4)) (.slice (some ⟨gi, 0, none⟩) n n) (us.set k (.slice a4 l4 c4)) ((L.take (k + 1)).map (·.f)) ∧ (us.set k (Value.slice a4 l4 c4)).length = n ∧ Turn no w0 (w4.setCell ⟨gi, k, none⟩ (.slice a4 l4 c4)) ∧ firstP L = firstP (L.drop (k + 1))) := ⟨by
            have q3 : Turn no w0 (w4.setCell ⟨gi, k, none⟩ (.slice a4 l4 c4)) := (kT.then_no T4).trans TS (fun i hi e => by
              have e' : i = gi := e
              have := HG.out
              omega)
            refine ⟨?_, by rw [List.length_set]; exact kL, q3, by rw [kF, HM.out.2, if_pos hp]⟩
            rw [List.take_add_one, HM.out.1, List.map_append]
            have := I4.put (m := m.f) (u := .slice a4 l4 c4) (g := gi) (w' := w4.setCell ⟨gi, k, none⟩ (.slice a4 l4 c4)) (by rw [hll, kL]; exact hlt) rfl O4 (fun g hg => by have := f4 g hg; have := T3.size; have := kT.size; omega) (by rw [hll]; exact O5) TS
            rw [hll] at this
            exact this⟩
          clear I4 O4 f4 t4 T4 T3 TS O5 R3 HK kI kL kT kF HM
          rw [hp]
          go_wp2_with fail
          go_roundw
          case rel => exact ⟨k + 1, _, by omega, by go_num, HN⟩
          case measure => simp [intOf]; omega
        · have HE : Shut (firstP L = m.p) := ⟨by rw [kF, HM.out.2, if_neg hp]⟩
          have hd := HDz.out (by rw [HE.out]; exact hp)
          subst hd
          have R5 := HTB.out w4 (kT.then_no T4)
          have TT := shut (T0.then_no (kT.then_no T4))
          have n1 : (m.p != 0) = true := by simpa using hp
          clear HR HDz hp HK kI kL kT kF HM O4 f4 t4 T4 T3 R3 hzv hzt
          generalize m.p = pm at *
          go_wp2_with (first | (guard_target =~ wpList _ _ _ ({ dst := _, op := Op.build 29 _, .. } :: _) _ _; refine wpList_buildG (by kernel_rfl) 29 rfl _ (hbd.out _) ?_) | (guard_target =~ wpList _ _ _ ({ dst := _, op := Op.store 29 _ _, .. } :: _) _ _; refine wpList_store_row rfl 29 (.tmp 6) (.tmp 36) rfl w.heap.size _ rfl rfl 29 _ R5 iZ rfl oZ ?_))
          refine bodyPost_ret (v := .tuple #[.agg _, .int .i64 pm]) ?_ rfl ⟨by rw [HE.out], TT.out.setRow _ _ (fun q => by omega)⟩
          exact results_cell_row_tmp (P := Tryd.prog) Tryd.results40 _ _ w.heap.size 29 _ (0, 0) _ rfl (setRow_heap _ _ _ _ _ _ R5) Tryd.underlying29 rfl iZ
      · have hlt' : ¬ (k : Int) < (n : Int) := by omega
        have hkn : k = n := by omega
        have HP0 : Shut (firstP L = 0) := ⟨by rw [kF, List.drop_of_length_le (by rw [hln.out]; omega)]; rfl⟩
        have HE : Shut (Il w0.heap.size wr (.slice (some ⟨gi, 0, none⟩) n n) us (L.map (·.f)) ∧ us.length = (L.map (·.f)).length) := ⟨by
          have e : L.take k = L := by rw [List.take_of_length_le (by rw [hln.out]; omega)]
          refine ⟨?_, by rw [kL, List.length_map, hln.out]⟩
          rwa [e] at kI⟩
        obtain ⟨xa, xc, its, e1, B1, e2⟩ := HE.out.1.bl HE.out.2 (by rw [List.length_map, hln.out]; exact hn)
        have k12 := HR.out HP0.out wr (T0.then_no kT) xa xc its B1 e2
        rw [← e1] at k12
        have RZ3 := HTB.out wr kT
        have TT := shut (T0.then_no kT)
        clear B1 e2 HE e1 HK kI kL kT kF HR HDz hkn HT HC hzt hzv
        go_wp2_with (first | (go_at_call 80; refine k12.mono ?_; clear k12; rintro e w3 ⟨rfl, t3⟩; have RZ4 := Row.turn RZ3 t3 (fun q => q)) | (guard_target =~ wpList _ _ _ ({ dst := _, op := Op.store 29 _ _, .. } :: _) _ _; refine wpList_store_row rfl 29 (.tmp 6) (.tmp 45) rfl w.heap.size D rfl rfl 29 Z RZ4 iD (by rw [hZ, sD]) oD ?_))
        refine bodyPost_ret (v := .tuple #[.agg D, .int .i64 0]) ?_ rfl ⟨by rw [HP0.out], (TT.out.then_no t3).setRow _ _ (fun q => by omega)⟩
        exact results_cell_row_tmp (P := Tryd.prog) Tryd.results40 _ _ w.heap.size 29 D (0, 0) _ rfl (setRow_heap _ _ _ _ _ _ RZ4) Tryd.underlying29 rfl iD
end Go.Proofs.YtgimecdmleofeaaDoor

/- rootOf of evidence. -/
namespace Go.Proofs.YtgimecdmleofeaaDoor
open Go.RowKit
set_option linter.unusedVariables false

set_option maxRecDepth 100000 in
set_option maxHeartbeats 8000000 in
theorem rootOf42 (w : World) (hl : Laid1 w) (h2 : 3 ≤ w.heap.size) (most : Nat) (hmo : most ≤ 65536) (a : Option Addr) (cap : Nat) (L : List El) (h : TsAt w 106 a cap L) (hF : ∀ x ∈ L, x.f.length ≤ 1048576)
    (CF : ∀ x ∈ L, ∀ W, Calls Tryd.prog 43 #[.agg x.cs.toArray] W (Told W x.p (if x.p = 0 then x.f else []))) :
    Calls Tryd.prog 42 #[.slice a L.length cap, .int .i64 most, .func (.func 43) #[] #[]] w fun e w' => e = .returned (.tuple #[.agg (hb32 (rootsH most L)), .int .i64 (rootsE most L)]) ∧ Turn no w w' := by
  have hZ := hb32_size z32_len
  have oZ := hb32_one z32
  have iZ := hb32_info z32_len
  have hzv := zero35v
  have hzt := zero80
  have hbd := shut bld35
  obtain ⟨w0, hw0⟩ : ∃ w0, w.alloc (.cells (hb32 z32) 29) = w0 := ⟨_, rfl⟩
  have T0 : Turn no w w0 := by rw [← hw0]; exact (Turn.refl no w).alloc _
  have RZ : Row w0 w.heap.size (hb32 z32) 29 := by rw [← hw0]; exact Row.new w _ 29
  have HT := shut (h.turn_no T0)
  have HTB : Shut (∀ W, Turn no w0 W → Row W w.heap.size (hb32 z32) 29) := ⟨fun W t => Row.turn RZ t (fun q => q)⟩
  have ld := rootsH_len most L
  have sD := hb32_size ld
  have oD := hb32_one (rootsH most L)
  have iD := hb32_info ld
  have hle : L.length ≤ 9223372036854775807 := by have := h.le; have := h.cap; simp only [maxLen] at this; omega
  have HDz : Shut (¬ rootsE most L = 0 → hb32 (rootsH most L) = hb32 z32) := ⟨fun e => by unfold rootsH; rw [if_neg e]⟩
  have HE0 : Shut (rootsE most L = if most < L.length then 4 else firstP L) := ⟨rfl⟩
  by_cases hbig : most < L.length
  · have e4 : rootsE most L = 4 := if_pos hbig
    have hd := HDz.out (by rw [e4]; decide)
    rw [hd, e4]
    have hgt : (most : Int) < (L.length : Int) := by omega
    clear HDz HE0 CF hF HT HTB iD oD sD hbig e4 hd h hl ld hzt
    generalize hb32 z32 = Z at *
    obtain ⟨n, hln⟩ : ∃ n, Hid (L.length = n) := ⟨_, rfl⟩
    rw [show L.length = n from hln.out] at hgt hle ⊢
    go_enter Tryd.func42, Tryd.ntmps42
    go_upto_region 1 with fail
    try rw [hw0]
    clear hw0 hzv
    go_wp2_with (first | (guard_target =~ wpList _ _ _ ({ dst := _, op := Op.build 29 _, .. } :: _) _ _; refine wpList_buildG (by kernel_rfl) 29 rfl _ (hbd.out _) ?_) | (guard_target =~ wpList _ _ _ ({ dst := _, op := Op.store 29 _ _, .. } :: _) _ _; refine wpList_store_row rfl 29 (.tmp 6) (.tmp 17) rfl w.heap.size Z rfl rfl 29 Z RZ iZ rfl oZ ?_))
    refine bodyPost_ret (v := .tuple #[.agg Z, .int .i64 4]) ?_ rfl ⟨rfl, T0.setRow _ _ (fun q => by omega)⟩
    exact results_cell_row_tmp (P := Tryd.prog) Tryd.results42 _ _ w.heap.size 29 Z (0, 0) _ rfl (setRow_heap _ _ _ _ _ _ RZ) Tryd.underlying29 rfl iZ
  · have eE : rootsE most L = firstP L := if_neg hbig
    have hgt : ¬ (most : Int) < (L.length : Int) := by omega
    have hn : L.length ≤ 65536 := by omega
    have HR : Shut (firstP L = 0 → ∀ W, Turn no w W → ∀ a cap its, BlAt W a cap its → txs its = L.map (·.f) → Calls Tryd.prog 80 #[.slice a its.length cap] W fun e w' => e = .returned (.tuple #[.agg (hb32 (rootsH most L)), .int .i64 0]) ∧ Turn no W w') := ⟨fun e W t a cap its B q => by
      have := root7 W a cap its B (hl.turn t (fun q => q)) (by have := t.size; omega)
      obtain ⟨r1, r2⟩ := root_its q (by simpa using hn) (fun x hx => by
        obtain ⟨y, hy, rfl⟩ := List.mem_map.1 hx
        exact hF y hy)
      rw [r1, r2] at this
      have ed : rootsH most L = hashOf (rtT (L.map (·.f))) := if_pos (by rw [eE]; exact e)
      rwa [ed]⟩
    rw [eE] at HDz ⊢
    have HC := shut CF
    clear CF hF HE0 eE hbig h hl ld
    generalize hb32 (rootsH most L) = D at *
    generalize hb32 z32 = Z at *
    obtain ⟨n, hln⟩ : ∃ n, Hid (L.length = n) := ⟨_, rfl⟩
    rw [show L.length = n from hln.out] at hgt hle hn ⊢
    have hmk := mk86 w0 n hn
    have O1 := mk_own w0 n hn
    obtain ⟨w2, hw2⟩ : ∃ w2, w0.alloc (.cells (madeCells #[.slice none 0 0] n) 70) = w2 := ⟨_, rfl⟩
    have t2 : Turn no w0 w2 := by rw [← hw2]; exact (Turn.refl no w0).alloc _
    rw [hw2] at O1 hmk
    have Ht2 := shut t2
    have HO1 := shut O1
    clear RZ O1 t2 hw2
    go_enter Tryd.func42, Tryd.ntmps42
    go_upto_region 1 with fail
    try rw [hw0]
    clear hw0
    go_wp2_with fail
    generalize hgi0 : w0.heap.size = gi at *
    have hgi : w.heap.size < gi := by rw [← hgi0]; have := T0.size; exact Nat.lt_of_lt_of_le (Row.lt (HTB.out w0 (Turn.refl _ _))) (Nat.le_refl _)
    have HG := shut hgi0
    clear hgi0
    go_loopw [23] (fun x wr => ∃ (k : Nat) (us : List Value), k ≤ n ∧ x = .int .i64 k ∧ Shut (Il w0.heap.size wr (.slice (some ⟨gi, 0, none⟩) n n) us ((L.take k).map (·.f)) ∧ us.length = n ∧ Turn no w0 wr ∧ firstP L = firstP (L.drop k))) (fun x _ => n - (intOf x).toNat)
    case atStart => exact ⟨0, List.replicate n (.slice none 0 0), by omega, rfl, ⟨⟨HO1.out, (fun g q => by cases q; rw [HG.out]; exact Nat.le_refl _), (fun j m q => by simp at q)⟩, by simp, Ht2.out, rfl⟩⟩
    case round =>
      obtain ⟨k, us, hk, rfl, HK⟩ := hrel
      obtain ⟨kI, kL, kT, kF⟩ := HK.out
      by_cases hlt : k < n
      · have hlt' : (k : Int) < (n : Int) := by omega
        obtain ⟨m, hm⟩ : ∃ m, L[k]? = some m := ⟨L[k]'(by rw [hln.out]; exact hlt), List.getElem?_eq_getElem _⟩
        have hmm := List.mem_of_getElem? hm
        obtain ⟨b, off, rfl, rM⟩ := (HT.out.turn_no kT).cells k m hm
        have hcl := HT.out.len m hmm
        have hs1 : (Tryd.prog.info? 80).map (·.size) = some m.cs.length := by rw [hcl]; kernel_rfl
        have hs2 : (Tryd.prog.info? 80).map (·.size) = some m.cs.toArray.size := by rw [List.size_toArray, hcl]; kernel_rfl
        have hs3 := one_arr (HT.out.one m hmm)
        have hs4 : Z80.size = m.cs.toArray.size := by rw [Z80_size, List.size_toArray, hcl]
        have HM := shut (And.intro hm (firstP_at hm))
        have HCm := shut (HC.out m hmm)
        have hsz := kT.size
        clear hm hmm hcl HC HT
        generalize hD : m.cs = E at *
        clear hD
        go_upto_region 7 with (first | (guard_target =~ wpList _ _ _ ({ dst := _, op := Op.load 80 _, .. } :: _) _ _; refine wpList_load_mid rfl 80 (.tmp 26) rfl b (off + k * 106) rfl E _ rM Tryd.underlying80 rfl hs1 ?_) | (guard_target =~ wpList _ _ _ ({ dst := _, op := Op.store 80 _ _, .. } :: _) _ _; refine wpList_store_any rfl 80 (.tmp 10) (.tmp 27) rfl wr.heap.size E.toArray rfl rfl 80 Z80 (Row.new wr Z80 80) hs2 hs4 hs3 ?_; intro w3 R3 t3))
        have u3 : Turn (fun q => q = wr.heap.size) wr w3 := ((Turn.refl _ wr).alloc _).trans t3 (fun _ _ e => e)
        have T3 : Turn no wr w3 := u3.mono (fun i hi e => by
          have e' : i = wr.heap.size := e
          omega)
        have c11 := HCm.out w3
        clear u3 t3 rM hs4 hs3 HCm
        generalize wr.heap.size = g7 at *
        generalize E.toArray = EA at *
        go_upto_region 8 with (first | (guard_target =~ wpList _ _ _ ({ dst := _, op := Op.load 80 _, .. } :: _) _ _; refine wpList_load_row rfl 80 (.tmp 10) rfl g7 rfl 80 EA _ _ R3 Tryd.underlying80 rfl hs2 ?_) | (go_at_call 43; refine c11.mono ?_; clear c11; rintro e w4 ⟨v4, rfl, O4, f4, t4⟩; obtain ⟨a4, l4, c4, rfl⟩ := O4.form))
        have T4 := T3.then_no t4
        by_cases hp : m.p = 0
        · rw [if_pos hp] at O4
          have I4 := kI.turn_no T4
          have hll : ((L.take k).map (·.f)).length = k := by rw [List.length_map, List.length_take, hln.out]; omega
          obtain ⟨u0, hu0⟩ : ∃ u0, us[k]? = some u0 := ⟨us[k]'(by rw [kL]; exact hlt), List.getElem?_eq_getElem _⟩
          have cg := I4.own.cell k _ hu0
          have fz : w4.frozen? ⟨gi, k, none⟩ = false := by
            rcases I4.own.shape with ⟨e, _⟩ | ⟨g', cap', cur, e, ho, _⟩
            · cases e
            · have eg := congrArg Value.ownBlock e
              simp [Value.ownBlock] at eg
              subst eg
              exact frozen_of_row w4 gi k _ 70 ho
          have TS := (Turn.refl (fun b => b = gi) w4).setCell (p := ⟨gi, k, none⟩) (fun _ => rfl) (.slice a4 l4 c4)
          have O5 := I4.own.setAt k (.slice a4 l4 c4)
          have HN : Shut (Il w0.heap.size (w4.setCell ⟨gi, k, none⟩ (.slice a4 l4 c4)) (.slice (some ⟨gi, 0, none⟩) n n) (us.set k (.slice a4 l4 c4)) ((L.take (k + 1)).map (·.f)) ∧ (us.set k (Value.slice a4 l4 c4)).length = n ∧ Turn no w0 (w4.setCell ⟨gi, k, none⟩ (.slice a4 l4 c4)) ∧ firstP L = firstP (L.drop (k + 1))) := ⟨by
            have q3 : Turn no w0 (w4.setCell ⟨gi, k, none⟩ (.slice a4 l4 c4)) := (kT.then_no T4).trans TS (fun i hi e => by
              have e' : i = gi := e
              have := HG.out
              omega)
            refine ⟨?_, by rw [List.length_set]; exact kL, q3, by rw [kF, HM.out.2, if_pos hp]⟩
            rw [List.take_add_one, HM.out.1, List.map_append]
            have := I4.put (m := m.f) (u := .slice a4 l4 c4) (g := gi) (w' := w4.setCell ⟨gi, k, none⟩ (.slice a4 l4 c4)) (by rw [hll, kL]; exact hlt) rfl O4 (fun g hg => by have := f4 g hg; have := T3.size; have := kT.size; omega) (by rw [hll]; exact O5) TS
            rw [hll] at this
            exact this⟩
          clear I4 O4 f4 t4 T4 T3 TS O5 R3 HK kI kL kT kF HM
          rw [hp]
          go_wp2_with fail
          go_roundw
          case rel => exact ⟨k + 1, _, by omega, by go_num, HN⟩
          case measure => simp [intOf]; omega
        · have HE : Shut (firstP L = m.p) := ⟨by rw [kF, HM.out.2, if_neg hp]⟩
          have hd := HDz.out (by rw [HE.out]; exact hp)
          subst hd
          have R5 := HTB.out w4 (kT.then_no T4)
          have TT := shut (T0.then_no (kT.then_no T4))
          have n1 : (m.p != 0) = true := by simpa using hp
          clear HR HDz hp HK kI kL kT kF HM O4 f4 t4 T4 T3 R3 hzv hzt
          generalize m.p = pm at *
          go_wp2_with (first | (guard_target =~ wpList _ _ _ ({ dst := _, op := Op.build 29 _, .. } :: _) _ _; refine wpList_buildG (by kernel_rfl) 29 rfl _ (hbd.out _) ?_) | (guard_target =~ wpList _ _ _ ({ dst := _, op := Op.store 29 _ _, .. } :: _) _ _; refine wpList_store_row rfl 29 (.tmp 6) (.tmp 36) rfl w.heap.size _ rfl rfl 29 _ R5 iZ rfl oZ ?_))
          refine bodyPost_ret (v := .tuple #[.agg _, .int .i64 pm]) ?_ rfl ⟨by rw [HE.out], TT.out.setRow _ _ (fun q => by omega)⟩
          exact results_cell_row_tmp (P := Tryd.prog) Tryd.results42 _ _ w.heap.size 29 _ (0, 0) _ rfl (setRow_heap _ _ _ _ _ _ R5) Tryd.underlying29 rfl iZ
      · have hlt' : ¬ (k : Int) < (n : Int) := by omega
        have hkn : k = n := by omega
        have HP0 : Shut (firstP L = 0) := ⟨by rw [kF, List.drop_of_length_le (by rw [hln.out]; omega)]; rfl⟩
        have HE : Shut (Il w0.heap.size wr (.slice (some ⟨gi, 0, none⟩) n n) us (L.map (·.f)) ∧ us.length = (L.map (·.f)).length) := ⟨by
          have e : L.take k = L := by rw [List.take_of_length_le (by rw [hln.out]; omega)]
          refine ⟨?_, by rw [kL, List.length_map, hln.out]⟩
          rwa [e] at kI⟩
        obtain ⟨xa, xc, its, e1, B1, e2⟩ := HE.out.1.bl HE.out.2 (by rw [List.length_map, hln.out]; exact hn)
        have k12 := HR.out HP0.out wr (T0.then_no kT) xa xc its B1 e2
        rw [← e1] at k12
        have RZ3 := HTB.out wr kT
        have TT := shut (T0.then_no kT)
        clear B1 e2 HE e1 HK kI kL kT kF HR HDz hkn HT HC hzt hzv
        go_wp2_with (first | (go_at_call 80; refine k12.mono ?_; clear k12; rintro e w3 ⟨rfl, t3⟩; have RZ4 := Row.turn RZ3 t3 (fun q => q)) | (guard_target =~ wpList _ _ _ ({ dst := _, op := Op.store 29 _ _, .. } :: _) _ _; refine wpList_store_row rfl 29 (.tmp 6) (.tmp 45) rfl w.heap.size D rfl rfl 29 Z RZ4 iD (by rw [hZ, sD]) oD ?_))
        refine bodyPost_ret (v := .tuple #[.agg D, .int .i64 0]) ?_ rfl ⟨by rw [HP0.out], (TT.out.then_no t3).setRow _ _ (fun q => by omega)⟩
        exact results_cell_row_tmp (P := Tryd.prog) Tryd.results42 _ _ w.heap.size 29 D (0, 0) _ rfl (setRow_heap _ _ _ _ _ _ RZ4) Tryd.underlying29 rfl iD
end Go.Proofs.YtgimecdmleofeaaDoor

/- TxsRoot, EvidenceRoot. -/
namespace Go.Proofs.YtgimecdmleofeaaDoor
open Go.RowKit
set_option linter.unusedVariables false

set_option maxRecDepth 100000 in
set_option maxHeartbeats 4000000 in
theorem roots13 (w : World) (hl : Laid1 w) (h2 : 3 ≤ w.heap.size) (a : Option Addr) (cap : Nat) (L : List El) (h : TsAt w 22 a cap L) (hF : ∀ x ∈ L, x.f.length ≤ 1048576)
    (CF : ∀ x ∈ L, ∀ W, Calls Tryd.prog 41 #[.agg x.cs.toArray] W (Told W x.p (if x.p = 0 then x.f else []))) :
    Calls Tryd.prog 13 #[.slice a L.length cap] w fun e w' => e = .returned (.tuple #[.agg (hb32 (rootsH 1000 L)), .int .i64 (rootsE 1000 L)]) ∧ Turn no w w' := by
  have hZ := hb32_size z32_len
  have hzv := zero35v
  obtain ⟨w0, hw0⟩ : ∃ w0, w.alloc (.cells (hb32 z32) 29) = w0 := ⟨_, rfl⟩
  have T0 : Turn no w w0 := by rw [← hw0]; exact (Turn.refl no w).alloc _
  have RZ : Row w0 w.heap.size (hb32 z32) 29 := by rw [← hw0]; exact Row.new w _ 29
  have C := rootOf40 w0 (hl.turn T0 (fun q => q)) (by have := T0.size; omega) 1000 (by omega) a cap L (h.turn_no T0) hF CF
  have ld := rootsH_len 1000 L
  have sD := hb32_size ld
  have oD := hb32_one (rootsH 1000 L)
  have iD := hb32_info ld
  clear CF hF h hl ld
  generalize hb32 (rootsH 1000 L) = D at *
  generalize hb32 z32 = Z at *
  generalize rootsE 1000 L = E at *
  generalize L.length = n at *
  have C : Calls Tryd.prog 40 #[.slice a n cap, .int .i64 1000, .func (.func 41) #[] #[]] w0 fun e w' => e = .returned (.tuple #[.agg D, .int .i64 E]) ∧ Turn no w0 w' := C
  go_enter Tryd.func13, Tryd.ntmps13
  go_upto_region 1 with fail
  try rw [hw0]
  clear hw0
  go_wp2_with (first | (go_at_call 40; refine C.mono ?_; clear C; rintro e w3 ⟨rfl, t3⟩; have RZ4 := Row.turn RZ t3 (fun q => q)) | (guard_target =~ wpList _ _ _ ({ dst := _, op := Op.store 29 _ _, .. } :: _) _ _; refine wpList_store_row rfl 29 (.tmp 2) (.tmp 6) rfl w.heap.size D rfl rfl 29 Z RZ4 iD (by rw [hZ, sD]) oD ?_))
  refine bodyPost_ret (v := .tuple #[.agg D, .int .i64 E]) ?_ rfl ⟨rfl, (T0.then_no t3).setRow _ _ (fun q => by omega)⟩
  exact results_cell_row_tmp (P := Tryd.prog) Tryd.results13 _ _ w.heap.size 29 D (0, 0) _ rfl (setRow_heap _ _ _ _ _ _ RZ4) Tryd.underlying29 rfl iD
set_option maxRecDepth 100000 in
set_option maxHeartbeats 4000000 in
theorem roots14 (w : World) (hl : Laid1 w) (h2 : 3 ≤ w.heap.size) (a : Option Addr) (cap : Nat) (L : List El) (h : TsAt w 106 a cap L) (hF : ∀ x ∈ L, x.f.length ≤ 1048576)
    (CF : ∀ x ∈ L, ∀ W, Calls Tryd.prog 43 #[.agg x.cs.toArray] W (Told W x.p (if x.p = 0 then x.f else []))) :
    Calls Tryd.prog 14 #[.slice a L.length cap] w fun e w' => e = .returned (.tuple #[.agg (hb32 (rootsH 16 L)), .int .i64 (rootsE 16 L)]) ∧ Turn no w w' := by
  have hZ := hb32_size z32_len
  have hzv := zero35v
  obtain ⟨w0, hw0⟩ : ∃ w0, w.alloc (.cells (hb32 z32) 29) = w0 := ⟨_, rfl⟩
  have T0 : Turn no w w0 := by rw [← hw0]; exact (Turn.refl no w).alloc _
  have RZ : Row w0 w.heap.size (hb32 z32) 29 := by rw [← hw0]; exact Row.new w _ 29
  have C := rootOf42 w0 (hl.turn T0 (fun q => q)) (by have := T0.size; omega) 16 (by omega) a cap L (h.turn_no T0) hF CF
  have ld := rootsH_len 16 L
  have sD := hb32_size ld
  have oD := hb32_one (rootsH 16 L)
  have iD := hb32_info ld
  clear CF hF h hl ld
  generalize hb32 (rootsH 16 L) = D at *
  generalize hb32 z32 = Z at *
  generalize rootsE 16 L = E at *
  generalize L.length = n at *
  have C : Calls Tryd.prog 42 #[.slice a n cap, .int .i64 16, .func (.func 43) #[] #[]] w0 fun e w' => e = .returned (.tuple #[.agg D, .int .i64 E]) ∧ Turn no w0 w' := C
  go_enter Tryd.func14, Tryd.ntmps14
  go_upto_region 1 with fail
  try rw [hw0]
  clear hw0
  go_wp2_with (first | (go_at_call 42; refine C.mono ?_; clear C; rintro e w3 ⟨rfl, t3⟩; have RZ4 := Row.turn RZ t3 (fun q => q)) | (guard_target =~ wpList _ _ _ ({ dst := _, op := Op.store 29 _ _, .. } :: _) _ _; refine wpList_store_row rfl 29 (.tmp 2) (.tmp 6) rfl w.heap.size D rfl rfl 29 Z RZ4 iD (by rw [hZ, sD]) oD ?_))
  refine bodyPost_ret (v := .tuple #[.agg D, .int .i64 E]) ?_ rfl ⟨rfl, (T0.then_no t3).setRow _ _ (fun q => by omega)⟩
  exact results_cell_row_tmp (P := Tryd.prog) Tryd.results14 _ _ w.heap.size 29 D (0, 0) _ rfl (setRow_heap _ _ _ _ _ _ RZ4) Tryd.underlying29 rfl iD
theorem encodeEv43 (w : World) (x : Ev) (ho : x.fits) : Calls Tryd.prog 43 #[.agg x.cs.toArray] w (Told w (plainV x) (if plainV x = 0 then evB x else [])) :=
  encX43 w x.cs (x.info ho) _ (by have := evB_le ho; omega) (plainV x) (fun W _ => plainV82 W x ho) (fun h0 W p v bs _ hw hb _ => layEvidence83 W p v bs hw x ho (plainV_lays h0) (by omega))
end Go.Proofs.YtgimecdmleofeaaDoor

/- TxsRoot of the document. -/
namespace Go.Proofs.YtgimecdmleofeaaDoor
open Go.RowKit
set_option linter.unusedVariables false

theorem src_cell (w : World) (v : Value) (hv : v.oneCell' = true) : Src Tryd.prog 1 86 (.slice (some ⟨w.heap.size, 0, none⟩) 1 1) 1 [v] (w.alloc (.cells #[v] 70)) := by
  refine Src.ofSlice _ Tryd.underlying86 _ _ _ _ rfl (fun j u hu => ?_) (fun u hu => ?_)
  · rw [Addr.add_lit, cell_of_row _ w.heap.size (0 + j) #[v] 70 (0, 0) (heap_alloc_new w _)]
    simpa using hu
  · simp only [List.mem_cons, List.not_mem_nil, or_false] at hu
    subst hu
    exact hv
set_option maxRecDepth 100000 in
set_option maxHeartbeats 8000000 in
theorem rroots15 (w : World) (hl : Laid0 w) (h2 : 3 ≤ w.heap.size) (a : Option Addr) (cap : Nat) (L : List El) (h : TsAt w 22 a cap L) (hF : ∀ x ∈ L, x.f.length ≤ 1048576)
    (CP : ∀ x ∈ L, ∀ W, Calls Tryd.prog 30 #[.agg x.cs.toArray] W fun e w' => e = .returned (.int .i64 x.p) ∧ Turn no W w')
    (CF : ∀ x ∈ L, x.p = 0 → ∀ W, Calls Tryd.prog 32 #[.agg x.cs.toArray, .bool true] W fun e w' => ∃ v, e = .returned v ∧ Fr W w' v x.f) :
    Calls Tryd.prog 15 #[.slice a L.length cap] w fun e w' => e = .returned (.tuple #[.agg (hb32 (rootsH 1000 L)), .int .i64 (rootsE 1000 L)]) ∧ Turn no w w' := by
  have hZ := hb32_size z32_len
  have oZ := hb32_one z32
  have iZ := hb32_info z32_len
  have hzv := zero35v
  have hbd := shut bld35
  obtain ⟨w0, hw0⟩ : ∃ w0, w.alloc (.cells (hb32 z32) 29) = w0 := ⟨_, rfl⟩
  have T0 : Turn no w w0 := by rw [← hw0]; exact (Turn.refl no w).alloc _
  have RZ : Row w0 w.heap.size (hb32 z32) 29 := by rw [← hw0]; exact Row.new w _ 29
  have HT := shut (h.turn_no T0)
  have HTB : Shut (∀ W, Turn no w0 W → Row W w.heap.size (hb32 z32) 29) := ⟨fun W t => Row.turn RZ t (fun q => q)⟩
  have ld := rootsH_len 1000 L
  have sD := hb32_size ld
  have oD := hb32_one (rootsH 1000 L)
  have iD := hb32_info ld
  have hle : L.length ≤ 9223372036854775807 := by have := h.le; have := h.cap; simp only [maxLen] at this; omega
  have HDz : Shut (¬ rootsE 1000 L = 0 → hb32 (rootsH 1000 L) = hb32 z32) := ⟨fun e => by unfold rootsH; rw [if_neg e]⟩
  by_cases hbig : 1000 < L.length
  · have e4 : rootsE 1000 L = 4 := if_pos hbig
    have hd := HDz.out (by rw [e4]; decide)
    rw [hd, e4]
    have hgt : (1000 : Int) < (L.length : Int) := by omega
    clear HDz CF CP hF HT HTB iD oD sD hbig e4 hd h hl ld
    generalize hb32 z32 = Z at *
    obtain ⟨n, hln⟩ : ∃ n, Hid (L.length = n) := ⟨_, rfl⟩
    rw [show L.length = n from hln.out] at hgt hle ⊢
    go_enter Tryd.func15, Tryd.ntmps15
    go_upto_region 1 with fail
    try rw [hw0]
    clear hw0 hzv
    go_wp2_with (first | (guard_target =~ wpList _ _ _ ({ dst := _, op := Op.build 29 _, .. } :: _) _ _; refine wpList_buildG (by kernel_rfl) 29 rfl _ (hbd.out _) ?_) | (guard_target =~ wpList _ _ _ ({ dst := _, op := Op.store 29 _ _, .. } :: _) _ _; refine wpList_store_row rfl 29 (.tmp 2) (.tmp 12) rfl w.heap.size Z rfl rfl 29 Z RZ iZ rfl oZ ?_))
    refine bodyPost_ret (v := .tuple #[.agg Z, .int .i64 4]) ?_ rfl ⟨rfl, T0.setRow _ _ (fun q => by omega)⟩
    exact results_cell_row_tmp (P := Tryd.prog) Tryd.results15 _ _ w.heap.size 29 Z (0, 0) _ rfl (setRow_heap _ _ _ _ _ _ RZ) Tryd.underlying29 rfl iZ
  · have eE : rootsE 1000 L = firstP L := if_neg hbig
    have hgt : ¬ (1000 : Int) < (L.length : Int) := by omega
    have hn : L.length ≤ 1000 := by omega
    have HR : Shut (firstP L = 0 → ∀ W, Turn no w W → ∀ a cap its, BlAt W a cap its → txs its = L.map (·.f) → Calls Tryd.prog 44 #[.slice a its.length cap] W fun e w' => e = .returned (.tuple #[.agg (hb32 (rootsH 1000 L)), .int .i64 0]) ∧ Turn no W w') := ⟨fun e W t a cap its B q => by
      have := root8 W a cap its B (hl.turn t (fun q => q)) (by have := t.size; omega)
      obtain ⟨r1, r2⟩ := root_its q (by rw [List.length_map]; omega) (fun x hx => by
        obtain ⟨y, hy, rfl⟩ := List.mem_map.1 hx
        exact hF y hy)
      rw [r1, r2] at this
      have ed : rootsH 1000 L = hashOf (rtT (L.map (·.f))) := if_pos (by rw [eE]; exact e)
      rwa [ed]⟩
    rw [eE] at HDz ⊢
    have HC := shut (And.intro CP CF)
    clear CF CP hF eE hbig h hl ld RZ
    generalize hb32 (rootsH 1000 L) = D at *
    generalize hb32 z32 = Z at *
    obtain ⟨n, hln⟩ : ∃ n, Hid (L.length = n) := ⟨_, rfl⟩
    rw [show L.length = n from hln.out] at hgt hle hn ⊢
    go_enter Tryd.func15, Tryd.ntmps15
    go_upto_region 1 with fail
    try rw [hw0]
    clear hw0
    go_wp2_with fail
    go_loopw [4, 5] (fun vi x wr => ∃ (k : Nat) (us : List Value), k ≤ n ∧ x = .int .i64 k ∧ Shut (Il w0.heap.size wr vi us ((L.take k).map (·.f)) ∧ us.length = k ∧ Turn no w0 wr ∧ firstP L = firstP (L.drop k))) (fun _ x _ => n - (intOf x).toNat)
    case atStart => exact ⟨0, [], by omega, rfl, ⟨⟨Own.nil _ _, (fun g q => by cases q), (fun j m q => by simp at q)⟩, rfl, Turn.refl _ _, rfl⟩⟩
    case round =>
      obtain ⟨k, us, hk, rfl, HK⟩ := hrel
      obtain ⟨kI, kL, kT, kF⟩ := HK.out
      obtain ⟨va, vn, vc, rfl⟩ := kI.own.form
      by_cases hlt : k < n
      · have hlt' : (k : Int) < (n : Int) := by omega
        obtain ⟨m, hm⟩ : ∃ m, L[k]? = some m := ⟨L[k]'(by rw [hln.out]; exact hlt), List.getElem?_eq_getElem _⟩
        have hmm := List.mem_of_getElem? hm
        obtain ⟨b, off, rfl, rM⟩ := (HT.out.turn_no kT).cells k m hm
        have hcl := HT.out.len m hmm
        have hs1 : (Tryd.prog.info? 27).map (·.size) = some m.cs.length := by rw [hcl]; kernel_rfl
        have HM := shut (And.intro hm (firstP_at hm))
        have cP := HC.out.1 m hmm wr
        have HCm := shut (HC.out.2 m hmm)
        clear hm hmm hcl HC HT
        generalize m.cs = E at *
        generalize hEA : E.toArray = EA at *
        have HEA := shut hEA
        clear hEA
        go_upto_region 8 with (first | (guard_target =~ wpList _ _ _ ({ dst := _, op := Op.load 27 _, .. } :: _) _ _; refine wpList_load_mid rfl 27 (.tmp 21) rfl b (off + k * 22) rfl E _ rM Tryd.underlying27 rfl hs1 ?_; rw [HEA.out]) | (go_at_call 30; refine cP.mono ?_; clear cP; rintro e w4 ⟨rfl, t4⟩))
        by_cases hp : m.p = 0
        · have cF := HCm.out hp w4
          have rM4 : w4.rangeAt b (off + k * 22) E := fun j u hu => t4.keep (rM j u hu) (fun q => q)
          rw [hp]
          clear rM
          go_upto_region 10 with fail
          have HB := shut (And.intro kI (And.intro kL kT))
          go_wp2_with (first | (guard_target =~ wpList _ _ _ ({ dst := _, op := Op.load 27 _, .. } :: _) _ _; refine wpList_load_mid rfl 27 (.tmp 31) rfl b (off + k * 22) rfl E _ rM4 Tryd.underlying27 rfl hs1 ?_; rw [HEA.out]) | (go_at_call 32; refine cF.mono ?_; clear cF; rintro e w5 ⟨v5, rfl, F5⟩; obtain ⟨a5, l5, c5, rfl⟩ := F5.form) | (at_builtin; refine wpList_append_src rfl (.tmp 28) (.tmp 34) rfl Tryd.underlying86 info70 rfl _ us rfl ((kI.turn_no (t4.then_no (F5.turn.alloc _))).own) _ 1 [.slice a5 l5 c5] rfl (src_cell w5 (.slice a5 l5 c5) rfl) (by rw [kL]; omega) (by rw [kL]; simp only [maxLen]; omega) ?_; intro v6 w6 o6 g6 _; obtain ⟨a6, l6, c6, rfl⟩ := o6.form))
          have I4 := kI.turn_no (t4.then_no (F5.turn.alloc (.cells #[.slice a5 l5 c5] 70)))
          have hszs := kT.size
          have hsz4 := t4.size
          have HN : Shut (Il w0.heap.size w6 (.slice a6 l6 c6) (us ++ [.slice a5 l5 c5]) ((L.take (k + 1)).map (·.f)) ∧ (us ++ [Value.slice a5 l5 c5]).length = k + 1 ∧ Turn no w0 w6 ∧ firstP L = firstP (L.drop (k + 1))) := ⟨by
            refine ⟨?_, by rw [List.length_append, kL]; rfl, ?_, by rw [kF, HM.out.2, if_pos hp]⟩
            · rw [List.take_add_one, HM.out.1, List.map_append]
              exact I4.push (m := m.f) (by rw [kL, List.length_map, List.length_take, hln.out]; omega) (by have := F5.turn.size; simp; omega) (F5.own.turn_no ((Turn.refl _ _).alloc _)) (fun g hg => by have := F5.new g hg; omega) o6 g6
            · exact ((kT.then_no t4).then_no (F5.turn.alloc _)).grown g6.grown (fun g q hg => by have := kI.bf g q; omega)⟩
          clear I4 o6 g6 F5 t4 HK kI kL kT kF HM HB
          go_wp2_with fail
          go_roundw
          case rel => exact ⟨k + 1, _, by omega, by go_num, HN⟩
          case measure => simp [intOf]; omega
        · have HE : Shut (firstP L = m.p) := ⟨by rw [kF, HM.out.2, if_neg hp]⟩
          have hd := HDz.out (by rw [HE.out]; exact hp)
          subst hd
          have R5 := HTB.out w4 (kT.then_no t4)
          have TT := shut (T0.then_no (kT.then_no t4))
          have n1 : (m.p != 0) = true := by simpa using hp
          clear HR HDz hp HK kI kL kT kF HM t4 hzv rM HCm
          generalize m.p = pm at *
          go_wp2_with (first | (guard_target =~ wpList _ _ _ ({ dst := _, op := Op.build 29 _, .. } :: _) _ _; refine wpList_buildG (by kernel_rfl) 29 rfl _ (hbd.out _) ?_) | (guard_target =~ wpList _ _ _ ({ dst := _, op := Op.store 29 _ _, .. } :: _) _ _; refine wpList_store_row rfl 29 (.tmp 2) (.tmp 26) rfl w.heap.size _ rfl rfl 29 _ R5 iZ rfl oZ ?_))
          refine bodyPost_ret (v := .tuple #[.agg _, .int .i64 pm]) ?_ rfl ⟨by rw [HE.out], TT.out.setRow _ _ (fun q => by omega)⟩
          exact results_cell_row_tmp (P := Tryd.prog) Tryd.results15 _ _ w.heap.size 29 _ (0, 0) _ rfl (setRow_heap _ _ _ _ _ _ R5) Tryd.underlying29 rfl iZ
      · have hlt' : ¬ (k : Int) < (n : Int) := by omega
        have HP0 : Shut (firstP L = 0) := ⟨by rw [kF, List.drop_of_length_le (by rw [hln.out]; omega)]; rfl⟩
        have HE : Shut (Il w0.heap.size wr (.slice va vn vc) us (L.map (·.f)) ∧ us.length = (L.map (·.f)).length) := ⟨by
          have e : L.take k = L := by rw [List.take_of_length_le (by rw [hln.out]; omega)]
          refine ⟨?_, by rw [kL, List.length_map, hln.out]; omega⟩
          rwa [e] at kI⟩
        obtain ⟨xa, xc, its, e1, B1, e2⟩ := HE.out.1.bl HE.out.2 (by rw [List.length_map, hln.out]; omega)
        have k12 := HR.out HP0.out wr (T0.then_no kT) xa xc its B1 e2
        rw [← e1] at k12
        have RZ3 := HTB.out wr kT
        have TT := shut (T0.then_no kT)
        clear B1 e2 HE e1 HK kI kL kF HR HDz HT HC
        go_upto_region 12 with (first | (go_at_call 44; refine k12.mono ?_; clear k12; rintro e w3 ⟨rfl, t3⟩) | (guard_target =~ wpList _ _ _ ({ dst := _, op := Op.store 29 _ _, .. } :: _) _ _; refine wpList_store_any rfl 29 (.tmp 7) (.tmp 39) rfl w3.heap.size D rfl rfl 29 Z (Row.new w3 Z 29) iD (by rw [hZ, sD]) oD ?_; intro w4 R4 t4))
        have tA : Turn (fun z => z = w3.heap.size) w3 w4 := ((Turn.refl _ w3).alloc _).trans t4 (fun _ _ q => q)
        have T4 : Turn no w w4 := (TT.out.then_no t3).trans tA (fun i hi q => by have := (TT.out.then_no t3).size; omega)
        have RZ4 : Row w4 w.heap.size Z 29 := Row.turn (Row.turn RZ3 t3 (fun q => q)) tA (fun q => by have := (Row.turn RZ3 t3 (fun q => q)).lt; omega)
        clear tA t4
        go_wp2_with (first | (guard_target =~ wpList _ _ _ ({ dst := _, op := Op.load 29 _, .. } :: _) _ _; refine wpList_load_row rfl 29 (.tmp 7) rfl w3.heap.size rfl 29 D _ _ R4 Tryd.underlying29 rfl iD ?_) | (guard_target =~ wpList _ _ _ ({ dst := _, op := Op.store 29 _ _, .. } :: _) _ _; refine wpList_store_row rfl 29 (.tmp 2) (.tmp 41) rfl w.heap.size D rfl rfl 29 Z RZ4 iD (by rw [hZ, sD]) oD ?_))
        refine bodyPost_ret (v := .tuple #[.agg D, .int .i64 0]) ?_ rfl ⟨by rw [HP0.out], T4.setRow _ _ (fun q => by omega)⟩
        exact results_cell_row_tmp (P := Tryd.prog) Tryd.results15 _ _ w.heap.size 29 D (0, 0) _ rfl (setRow_heap _ _ _ _ _ _ RZ4) Tryd.underlying29 rfl iD
end Go.Proofs.YtgimecdmleofeaaDoor

/- EvidenceRoot of the document. -/
namespace Go.Proofs.YtgimecdmleofeaaDoor
open Go.RowKit
set_option linter.unusedVariables false

set_option maxRecDepth 100000 in
set_option maxHeartbeats 8000000 in
theorem rroots16 (w : World) (hl : Laid0 w) (h2 : 3 ≤ w.heap.size) (a : Option Addr) (cap : Nat) (L : List El) (h : TsAt w 106 a cap L) (hF : ∀ x ∈ L, x.f.length ≤ 1048576)
    (CP : ∀ x ∈ L, ∀ W, Calls Tryd.prog 45 #[.agg x.cs.toArray] W fun e w' => e = .returned (.int .i64 x.p) ∧ Turn no W w')
    (CF : ∀ x ∈ L, x.p = 0 → ∀ W, Calls Tryd.prog 46 #[.agg x.cs.toArray] W fun e w' => ∃ v, e = .returned v ∧ Fr W w' v x.f) :
    Calls Tryd.prog 16 #[.slice a L.length cap] w fun e w' => e = .returned (.tuple #[.agg (hb32 (rootsH 16 L)), .int .i64 (rootsE 16 L)]) ∧ Turn no w w' := by
  have hZ := hb32_size z32_len
  have oZ := hb32_one z32
  have iZ := hb32_info z32_len
  have hzv := zero35v
  have hbd := shut bld35
  obtain ⟨w0, hw0⟩ : ∃ w0, w.alloc (.cells (hb32 z32) 29) = w0 := ⟨_, rfl⟩
  have T0 : Turn no w w0 := by rw [← hw0]; exact (Turn.refl no w).alloc _
  have RZ : Row w0 w.heap.size (hb32 z32) 29 := by rw [← hw0]; exact Row.new w _ 29
  have HT := shut (h.turn_no T0)
  have HTB : Shut (∀ W, Turn no w0 W → Row W w.heap.size (hb32 z32) 29) := ⟨fun W t => Row.turn RZ t (fun q => q)⟩
  have ld := rootsH_len 16 L
  have sD := hb32_size ld
  have oD := hb32_one (rootsH 16 L)
  have iD := hb32_info ld
  have hle : L.length ≤ 9223372036854775807 := by have := h.le; have := h.cap; simp only [maxLen] at this; omega
  have HDz : Shut (¬ rootsE 16 L = 0 → hb32 (rootsH 16 L) = hb32 z32) := ⟨fun e => by unfold rootsH; rw [if_neg e]⟩
  by_cases hbig : 16 < L.length
  · have e4 : rootsE 16 L = 4 := if_pos hbig
    have hd := HDz.out (by rw [e4]; decide)
    rw [hd, e4]
    have hgt : (16 : Int) < (L.length : Int) := by omega
    clear HDz CF CP hF HT HTB iD oD sD hbig e4 hd h hl ld
    generalize hb32 z32 = Z at *
    obtain ⟨n, hln⟩ : ∃ n, Hid (L.length = n) := ⟨_, rfl⟩
    rw [show L.length = n from hln.out] at hgt hle ⊢
    go_enter Tryd.func16, Tryd.ntmps16
    go_upto_region 1 with fail
    try rw [hw0]
    clear hw0 hzv
    go_wp2_with (first | (guard_target =~ wpList _ _ _ ({ dst := _, op := Op.build 29 _, .. } :: _) _ _; refine wpList_buildG (by kernel_rfl) 29 rfl _ (hbd.out _) ?_) | (guard_target =~ wpList _ _ _ ({ dst := _, op := Op.store 29 _ _, .. } :: _) _ _; refine wpList_store_row rfl 29 (.tmp 2) (.tmp 12) rfl w.heap.size Z rfl rfl 29 Z RZ iZ rfl oZ ?_))
    refine bodyPost_ret (v := .tuple #[.agg Z, .int .i64 4]) ?_ rfl ⟨rfl, T0.setRow _ _ (fun q => by omega)⟩
    exact results_cell_row_tmp (P := Tryd.prog) Tryd.results16 _ _ w.heap.size 29 Z (0, 0) _ rfl (setRow_heap _ _ _ _ _ _ RZ) Tryd.underlying29 rfl iZ
  · have eE : rootsE 16 L = firstP L := if_neg hbig
    have hgt : ¬ (16 : Int) < (L.length : Int) := by omega
    have hn : L.length ≤ 16 := by omega
    have HR : Shut (firstP L = 0 → ∀ W, Turn no w W → ∀ a cap its, BlAt W a cap its → txs its = L.map (·.f) → Calls Tryd.prog 44 #[.slice a its.length cap] W fun e w' => e = .returned (.tuple #[.agg (hb32 (rootsH 16 L)), .int .i64 0]) ∧ Turn no W w') := ⟨fun e W t a cap its B q => by
      have := root8 W a cap its B (hl.turn t (fun q => q)) (by have := t.size; omega)
      obtain ⟨r1, r2⟩ := root_its q (by rw [List.length_map]; omega) (fun x hx => by
        obtain ⟨y, hy, rfl⟩ := List.mem_map.1 hx
        exact hF y hy)
      rw [r1, r2] at this
      have ed : rootsH 16 L = hashOf (rtT (L.map (·.f))) := if_pos (by rw [eE]; exact e)
      rwa [ed]⟩
    rw [eE] at HDz ⊢
    have HC := shut (And.intro CP CF)
    clear CF CP hF eE hbig h hl ld RZ
    generalize hb32 (rootsH 16 L) = D at *
    generalize hb32 z32 = Z at *
    obtain ⟨n, hln⟩ : ∃ n, Hid (L.length = n) := ⟨_, rfl⟩
    rw [show L.length = n from hln.out] at hgt hle hn ⊢
    go_enter Tryd.func16, Tryd.ntmps16
    go_upto_region 1 with fail
    try rw [hw0]
    clear hw0
    go_wp2_with fail
    go_loopw [4, 5] (fun vi x wr => ∃ (k : Nat) (us : List Value), k ≤ n ∧ x = .int .i64 k ∧ Shut (Il w0.heap.size wr vi us ((L.take k).map (·.f)) ∧ us.length = k ∧ Turn no w0 wr ∧ firstP L = firstP (L.drop k))) (fun _ x _ => n - (intOf x).toNat)
    case atStart => exact ⟨0, [], by omega, rfl, ⟨⟨Own.nil _ _, (fun g q => by cases q), (fun j m q => by simp at q)⟩, rfl, Turn.refl _ _, rfl⟩⟩
    case round =>
      obtain ⟨k, us, hk, rfl, HK⟩ := hrel
      obtain ⟨kI, kL, kT, kF⟩ := HK.out
      obtain ⟨va, vn, vc, rfl⟩ := kI.own.form
      by_cases hlt : k < n
      · have hlt' : (k : Int) < (n : Int) := by omega
        obtain ⟨m, hm⟩ : ∃ m, L[k]? = some m := ⟨L[k]'(by rw [hln.out]; exact hlt), List.getElem?_eq_getElem _⟩
        have hmm := List.mem_of_getElem? hm
        obtain ⟨b, off, rfl, rM⟩ := (HT.out.turn_no kT).cells k m hm
        have hcl := HT.out.len m hmm
        have hs1 : (Tryd.prog.info? 80).map (·.size) = some m.cs.length := by rw [hcl]; kernel_rfl
        have HM := shut (And.intro hm (firstP_at hm))
        have cP := HC.out.1 m hmm wr
        have HCm := shut (HC.out.2 m hmm)
        clear hm hmm hcl HC HT
        generalize m.cs = E at *
        generalize hEA : E.toArray = EA at *
        have HEA := shut hEA
        clear hEA
        go_upto_region 8 with (first | (guard_target =~ wpList _ _ _ ({ dst := _, op := Op.load 80 _, .. } :: _) _ _; refine wpList_load_mid rfl 80 (.tmp 21) rfl b (off + k * 106) rfl E _ rM Tryd.underlying80 rfl hs1 ?_; rw [HEA.out]) | (go_at_call 45; refine cP.mono ?_; clear cP; rintro e w4 ⟨rfl, t4⟩))
        by_cases hp : m.p = 0
        · have cF := HCm.out hp w4
          have rM4 : w4.rangeAt b (off + k * 106) E := fun j u hu => t4.keep (rM j u hu) (fun q => q)
          rw [hp]
          clear rM
          go_upto_region 10 with fail
          have HB := shut (And.intro kI (And.intro kL kT))
          go_wp2_with (first | (guard_target =~ wpList _ _ _ ({ dst := _, op := Op.load 80 _, .. } :: _) _ _; refine wpList_load_mid rfl 80 (.tmp 31) rfl b (off + k * 106) rfl E _ rM4 Tryd.underlying80 rfl hs1 ?_; rw [HEA.out]) | (go_at_call 46; refine cF.mono ?_; clear cF; rintro e w5 ⟨v5, rfl, F5⟩; obtain ⟨a5, l5, c5, rfl⟩ := F5.form) | (at_builtin; refine wpList_append_src rfl (.tmp 28) (.tmp 34) rfl Tryd.underlying86 info70 rfl _ us rfl ((kI.turn_no (t4.then_no (F5.turn.alloc _))).own) _ 1 [.slice a5 l5 c5] rfl (src_cell w5 (.slice a5 l5 c5) rfl) (by rw [kL]; omega) (by rw [kL]; simp only [maxLen]; omega) ?_; intro v6 w6 o6 g6 _; obtain ⟨a6, l6, c6, rfl⟩ := o6.form))
          have I4 := kI.turn_no (t4.then_no (F5.turn.alloc (.cells #[.slice a5 l5 c5] 70)))
          have hszs := kT.size
          have hsz4 := t4.size
          have HN : Shut (Il w0.heap.size w6 (.slice a6 l6 c6) (us ++ [.slice a5 l5 c5]) ((L.take (k + 1)).map (·.f)) ∧ (us ++ [Value.slice a5 l5 c5]).length = k + 1 ∧ Turn no w0 w6 ∧ firstP L = firstP (L.drop (k + 1))) := ⟨by
            refine ⟨?_, by rw [List.length_append, kL]; rfl, ?_, by rw [kF, HM.out.2, if_pos hp]⟩
            · rw [List.take_add_one, HM.out.1, List.map_append]
              exact I4.push (m := m.f) (by rw [kL, List.length_map, List.length_take, hln.out]; omega) (by have := F5.turn.size; simp; omega) (F5.own.turn_no ((Turn.refl _ _).alloc _)) (fun g hg => by have := F5.new g hg; omega) o6 g6
            · exact ((kT.then_no t4).then_no (F5.turn.alloc _)).grown g6.grown (fun g q hg => by have := kI.bf g q; omega)⟩
          clear I4 o6 g6 F5 t4 HK kI kL kT kF HM HB
          go_wp2_with fail
          go_roundw
          case rel => exact ⟨k + 1, _, by omega, by go_num, HN⟩
          case measure => simp [intOf]; omega
        · have HE : Shut (firstP L = m.p) := ⟨by rw [kF, HM.out.2, if_neg hp]⟩
          have hd := HDz.out (by rw [HE.out]; exact hp)
          subst hd
          have R5 := HTB.out w4 (kT.then_no t4)
          have TT := shut (T0.then_no (kT.then_no t4))
          have n1 : (m.p != 0) = true := by simpa using hp
          clear HR HDz hp HK kI kL kT kF HM t4 hzv rM HCm
          generalize m.p = pm at *
          go_wp2_with (first | (guard_target =~ wpList _ _ _ ({ dst := _, op := Op.build 29 _, .. } :: _) _ _; refine wpList_buildG (by kernel_rfl) 29 rfl _ (hbd.out _) ?_) | (guard_target =~ wpList _ _ _ ({ dst := _, op := Op.store 29 _ _, .. } :: _) _ _; refine wpList_store_row rfl 29 (.tmp 2) (.tmp 26) rfl w.heap.size _ rfl rfl 29 _ R5 iZ rfl oZ ?_))
          refine bodyPost_ret (v := .tuple #[.agg _, .int .i64 pm]) ?_ rfl ⟨by rw [HE.out], TT.out.setRow _ _ (fun q => by omega)⟩
          exact results_cell_row_tmp (P := Tryd.prog) Tryd.results16 _ _ w.heap.size 29 _ (0, 0) _ rfl (setRow_heap _ _ _ _ _ _ R5) Tryd.underlying29 rfl iZ
      · have hlt' : ¬ (k : Int) < (n : Int) := by omega
        have HP0 : Shut (firstP L = 0) := ⟨by rw [kF, List.drop_of_length_le (by rw [hln.out]; omega)]; rfl⟩
        have HE : Shut (Il w0.heap.size wr (.slice va vn vc) us (L.map (·.f)) ∧ us.length = (L.map (·.f)).length) := ⟨by
          have e : L.take k = L := by rw [List.take_of_length_le (by rw [hln.out]; omega)]
          refine ⟨?_, by rw [kL, List.length_map, hln.out]; omega⟩
          rwa [e] at kI⟩
        obtain ⟨xa, xc, its, e1, B1, e2⟩ := HE.out.1.bl HE.out.2 (by rw [List.length_map, hln.out]; omega)
        have k12 := HR.out HP0.out wr (T0.then_no kT) xa xc its B1 e2
        rw [← e1] at k12
        have RZ3 := HTB.out wr kT
        have TT := shut (T0.then_no kT)
        clear B1 e2 HE e1 HK kI kL kF HR HDz HT HC
        go_upto_region 12 with (first | (go_at_call 44; refine k12.mono ?_; clear k12; rintro e w3 ⟨rfl, t3⟩) | (guard_target =~ wpList _ _ _ ({ dst := _, op := Op.store 29 _ _, .. } :: _) _ _; refine wpList_store_any rfl 29 (.tmp 7) (.tmp 39) rfl w3.heap.size D rfl rfl 29 Z (Row.new w3 Z 29) iD (by rw [hZ, sD]) oD ?_; intro w4 R4 t4))
        have tA : Turn (fun z => z = w3.heap.size) w3 w4 := ((Turn.refl _ w3).alloc _).trans t4 (fun _ _ q => q)
        have T4 : Turn no w w4 := (TT.out.then_no t3).trans tA (fun i hi q => by have := (TT.out.then_no t3).size; omega)
        have RZ4 : Row w4 w.heap.size Z 29 := Row.turn (Row.turn RZ3 t3 (fun q => q)) tA (fun q => by have := (Row.turn RZ3 t3 (fun q => q)).lt; omega)
        clear tA t4
        go_wp2_with (first | (guard_target =~ wpList _ _ _ ({ dst := _, op := Op.load 29 _, .. } :: _) _ _; refine wpList_load_row rfl 29 (.tmp 7) rfl w3.heap.size rfl 29 D _ _ R4 Tryd.underlying29 rfl iD ?_) | (guard_target =~ wpList _ _ _ ({ dst := _, op := Op.store 29 _ _, .. } :: _) _ _; refine wpList_store_row rfl 29 (.tmp 2) (.tmp 41) rfl w.heap.size D rfl rfl 29 Z RZ4 iD (by rw [hZ, sD]) oD ?_))
        refine bodyPost_ret (v := .tuple #[.agg D, .int .i64 0]) ?_ rfl ⟨by rw [HP0.out], T4.setRow _ _ (fun q => by omega)⟩
        exact results_cell_row_tmp (P := Tryd.prog) Tryd.results16 _ _ w.heap.size 29 D (0, 0) _ rfl (setRow_heap _ _ _ _ _ _ RZ4) Tryd.underlying29 rfl iD
end Go.Proofs.YtgimecdmleofeaaDoor
