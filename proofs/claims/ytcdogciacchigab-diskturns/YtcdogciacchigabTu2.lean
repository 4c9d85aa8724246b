/- DiskTurns: the walk. -/
import Derived.Test.YtcdogciacchigabTq
import Derived.Test.YtcdogciacchigabHh
import Derived.Test.YtcdogciacchigabYy
namespace Go.Proofs.Ytcdogciacchigab
open Go.RowKit Go.Maps
set_option linter.unusedVariables false

set_option maxRecDepth 100000 in
set_option maxHeartbeats 2000000 in
theorem spoil26_nil (w : World) : Calls Try.prog 26 #[.slice none 0 0] w fun e w' => e = .returned (.tuple #[]) ∧ w' = w := by
  go_enter Try.func26, Try.ntmps26
  go_wp2_with fail
  go_loopw [2] (fun x wr => x = .int .i64 0 ∧ wr = w) (fun _ _ => 0)
  case atStart => exact ⟨rfl, rfl⟩
  case round =>
    obtain ⟨rfl, rfl⟩ := hrel
    go_wp2_with fail
    exact ⟨rfl, _, results_none rfl _ _ _, rfl, rfl⟩
theorem spoil26_any (w : World) (v : Value) (xs : List UInt8) (hl : xs.length ≤ 140737488351240) (hf : Own w 5 v (xs.map bv)) : Calls Try.prog 26 #[v] w fun e w' => e = .returned (.tuple #[]) ∧ ∃ ys : List UInt8, ys.length = xs.length ∧ Own w' 5 v (ys.map bv) ∧ Turn (fun k => v.ownBlock = some k) w w' := by
  rcases hf.shape with ⟨rfl, e⟩ | ⟨g, cap, cur, e, _⟩
  · refine (spoil26_nil w).mono ?_
    rintro e' w' ⟨rfl, rfl⟩
    exact ⟨rfl, xs, rfl, hf, Turn.refl _ _⟩
  · rw [List.length_map] at e
    subst e
    refine (spoil26 w g cap xs hl hf).mono ?_
    rintro e' w' ⟨rfl, ⟨ys, hy, hO⟩, t⟩
    exact ⟨rfl, ys, hy, hO, t.mono (fun k _ q => by rw [q]; rfl)⟩
theorem own_cut {w : World} {g n cap : Nat} {xs ys : List Value} (h : Own w 5 (.slice (some ⟨g, 0, none⟩) n cap) (xs ++ ys)) : Own w 5 (.slice (some ⟨g, 0, none⟩) xs.length cap) xs := by
  rcases h.shape with ⟨e1, _⟩ | ⟨g', cap', cur, e1, hg, h1, h2, h3, h4⟩
  · cases e1
  · cases e1
    refine Own.of hg (by simp at h1; omega) h2 h3 ?_
    have := congrArg (List.take xs.length) h4
    rw [List.take_take, List.take_left' rfl, Nat.min_eq_left (by simp)] at this
    exact this
theorem oxn {B : Nat} {w : World} (k : Int) (nm : Nm) (hn : nm.length ≤ maxLen) : Ox B w ⟨k, 0, nm, .slice none 0 0, [], 0, ⟨0, 0, false⟩, .slice none 0 0, [], 0⟩ :=
  ⟨hn, Or.inl ⟨rfl, rfl⟩, Or.inl ⟨rfl, rfl⟩, fun h => absurd rfl h, fun h => absurd rfl h⟩
theorem Im.at28 {B : Nat} {w : World} {v : Value} {l : List Fi} (h : Im B w v l) (i : Nat) (f : Fi) (hf : l[i]? = some f) : ∃ g c a n c', v = .slice (some ⟨g, 0, none⟩) l.length c ∧ w.cell? ⟨g, i * 2, none⟩ = some (strV f.1) ∧ w.cell? ⟨g, i * 2 + 1, none⟩ = some (.slice a n c') ∧ Own w 5 (.slice a n c') (f.2.map bv) ∧ (∀ b, (Value.slice a n c').ownBlock = some b → B ≤ b) ∧ B ≤ g ∧ ∃ cur, w.heap[g]? = some (.cells cur 66 (0, 0)) := by
  obtain ⟨vs, h1, h2, h3, h4⟩ := h
  have hil := (List.getElem?_eq_some_iff.1 hf).1
  obtain ⟨u, hu⟩ : ∃ u, vs[i]? = some u := ⟨vs[i]'(by omega), List.getElem?_eq_getElem _⟩
  obtain ⟨hO, hB⟩ := h4 i f u hf hu
  obtain ⟨a, c', rfl⟩ := hO.bs.slice
  obtain ⟨e0, e1⟩ := imC_at l vs h1 i f _ hf hu
  rcases h2.2 with ⟨_, q⟩ | ⟨g, cap, cur, rfl, _, ho, _⟩
  · omega
  · have hc : ∀ j x, (imC l vs)[j]? = some x → w.cell? ⟨g, j, none⟩ = some x := fun j x hx => by
      have := World.ownsRow.cells h2 (g := g) rfl j x hx
      simpa [Addr.add_lit] using this
    exact ⟨g, cap, a, _, c', rfl, hc _ _ e0, hc _ _ e1, hO, hB, h3 g rfl, cur, ho⟩
def nA : Nm := [97]
def nB : Nm := [98]
theorem nA_ok : isNm nA = true := by decide
theorem nB_ok : isNm nB = true := by decide
/-- What a round leaves of the pair. -/
def rndS (s : St) (d : List UInt8) : St := (replS (appS s nA d).1 nB d).1
set_option maxRecDepth 100000 in
set_option maxHeartbeats 16000000 in
theorem turns4 (w : World) (v : Value) (data : List UInt8) (hb : Bs w v data) (hdl : data.length ≤ 140737488351232) (cut : Int) : Calls Try.prog 4 #[v, .int .i64 cut] w fun e w' => e = .returned (.bool true) ∧ Turn no w w' := by
  obtain ⟨va, vc, rfl⟩ := hb.slice
  by_cases hbig : 5000 < data.length
  · have hbig' : (5000 : Int) < (data.length : Int) := by omega
    go_enter Try.func4, Try.ntmps4
    go_wp2_with fail
    go_ret
    exact ⟨rfl, Turn.refl _ _⟩
  have hsm : ¬ (5000 : Int) < (data.length : Int) := by omega
  have hn1 := new9 w 1048576 (by omega) (by omega)
  have hn2 := fun W => rnew19 W 1048576 (by omega) (by omega)
  have HN2 := shut hn2
  have HBS := shut hb
  have HDL : Shut (data.length ≤ 5000) := by show data.length ≤ 5000; omega
  have HNUM := shut num10
  clear hn2 hb hbig hdl
  go_enter Try.func4, Try.ntmps4
  go_wp2_with fail
  refine hn1.mono ?_
  clear hn1
  rintro e w1 ⟨p, K, rfl, hp, hD, hK, t1⟩
  have HD := shut hD
  have HK := shut hK
  have HT1 := shut t1
  clear hD hK t1 hp
  unfold ptr
  go_wp2_with fail
  refine (HN2.out w1).mono ?_
  rintro e w2 ⟨q, L, rfl, hq, hR, hL, t2⟩
  have HP2 := shut (Pr.of (B := w.heap.size) (Nat.le_refl _) HD.out HK.out HT1.out hR hL t2)
  have HT2 := shut (HT1.out.then_no t2)
  have hroom := room20 w2 _ data (HBS.out.turn_no HT2.out) (by have := HDL.out; omega)
  clear hR hL t2 hq HD HK HN2
  unfold ptr
  go_wp2_with fail
  refine (HNUM.out _ _).mono ?_
  rintro e w' ⟨rfl, rfl⟩
  go_wp2_with fail
  refine hroom.mono ?_
  clear hroom
  rintro e w3 ⟨g, c, rfl, hO3, hg3, t3⟩
  have hcap : data.length ≤ c := by
    rcases hO3.shape with ⟨e, _⟩ | ⟨_, cap, _, e, _, h1, _⟩
    · cases e
    · simp at e h1
      have := e.2.2
      omega
  have hcap' : (data.length : Int) ≤ (c : Int) := by omega
  have hcap2 : ¬ (c : Int) < (data.length : Int) := by omega
  obtain ⟨w4, hw4⟩ : ∃ w4, w3.alloc (.cells #[.int .i64 data.length, .int .i64 cut] 3) = w4 := ⟨_, rfl⟩
  have t4 : Turn no w3 w4 := by rw [← hw4]; exact (Turn.refl no w3).alloc _
  obtain ⟨gk, hgk⟩ : ∃ gk, w3.heap.size = gk := ⟨_, rfl⟩
  have r4 : Row w4 gk #[.int .i64 data.length, .int .i64 cut] 3 := by rw [← hw4]; exact Row.newAt _ _ _ _ hgk.symm
  obtain ⟨Y, hY⟩ : ∃ Y : Nat → Prop, Y = (fun k => k = g ∨ k = gk) := ⟨_, rfl⟩
  have HYY := shut hY
  have HO4 : Shut (Own w4 5 (.slice (some ⟨g, 0, none⟩) data.length c) (data.map bv)) := by
    have := own_cut (xs := data.map bv) (ys := marks.map bv) (by rw [← List.map_append]; exact hO3.turn_no t4)
    rw [List.length_map] at this
    exact this
  have HP4 : Shut (Pr w.heap.size Y w4 p q (newSt 1048576) (newSt 1048576)) := (HP2.out.avoid (fun k e => by rw [hY] at e; have := t3.size; exact Or.inr (by omega))).turn_no (t3.then_no t4)
  have HR4 := shut r4
  have HGW : Shut (w.heap.size ≤ g) := by have := HT2.out.size; show w.heap.size ≤ g; omega
  have HT4 := shut ((HT2.out.then_no t3).then_no t4)
  have HS4 : Shut (g < w4.heap.size ∧ gk < w4.heap.size ∧ w'.heap.size ≤ g ∧ g < gk) := by
    have h1 := hO3.lt (g := g) rfl
    have h2 : gk < w4.heap.size := lt_of_obj r4
    exact ⟨by omega, h2, hg3, by omega⟩
  clear hO3 hg3 t3 t4 r4 hY HP2 hcap
  generalize hN3 : data.length + 3 = N3 at *
  clear hN3
  go_wp2_with fail
  obtain ⟨B, hB⟩ : ∃ B, w.heap.size = B := ⟨_, rfl⟩
  rw [hB] at HP4
  have HBB := shut hB
  clear hB
  go_loopw [11] (fun x wr => ∃ (i : Nat) (d : List UInt8) (s : St), i ≤ 2 ∧ x = .int .i64 i ∧ Shut (d.length = data.length) ∧ Shut (Own wr 5 (.slice (some ⟨g, 0, none⟩) data.length c) (d.map bv)) ∧ Shut (Tc s (10000 * i) (2 * i)) ∧ Shut (Pr B Y wr p q s s) ∧ Shut (Row wr gk #[.int .i64 data.length, .int .i64 cut] 3) ∧ Shut (Turn no w wr ∧ w4.heap.size ≤ wr.heap.size)) (fun x _ => 2 - (intOf x).toNat)
  case atStart => exact ⟨0, data, newSt 1048576, by omega, rfl, rfl, HO4, Tc.start, HP4, HR4, ⟨HT4.out, Nat.le_refl _⟩⟩
  case round =>
    obtain ⟨i, d, s, hi, rfl, HLd, HOd, HTc, HPr, HRk, HTw⟩ := hrel
    by_cases hlt : i < 2
    · have hlt' : (i : Int) < 2 := by omega
      obtain ⟨wA, hwA⟩ : ∃ wA, wr.alloc (.cells #[.pointer (some ⟨p, 0, none⟩), .pointer (some ⟨q, 0, none⟩)] 55) = wA := ⟨_, rfl⟩
      have tA : Turn no wr wA := by rw [← hwA]; exact (Turn.refl no wr).alloc _
      obtain ⟨gA, hgA⟩ : ∃ gA, wr.heap.size = gA := ⟨_, rfl⟩
      have rA : Row wA gA #[.pointer (some ⟨p, 0, none⟩), .pointer (some ⟨q, 0, none⟩)] 55 := by rw [← hwA]; exact Row.newAt _ _ _ _ hgA.symm
      have hDL := HDL.out
      have hLd := HLd.out
      have hOA := HOd.out.turn_no tA
      have hsA : Src Try.prog 1 28 (.slice (some ⟨g, 0, none⟩) data.length c) data.length (d.map bv) wA := by
        have := hOA.bs.src Try.underlying28
        rw [hLd] at this
        exact this
      obtain ⟨v5, w5, hr5, hO5, hG5, hzz⟩ := run_append_src (P := Try.prog) (t := 28) (tx := 28) (e := 5) Try.underlying28 info5 rfl 28 wA (.slice none 0 0) [] (Own.nil wA 5) (.slice (some ⟨g, 0, none⟩) data.length c) data.length (d.map bv) hsA (by simp; omega) (by simp only [maxLen]; simp; omega)
      clear hzz
      rw [List.nil_append] at hO5
      have t5 : Turn no wA w5 := hG5.turn.mono (fun k _ e => by cases e)
      have hf5 : ∀ g, v5.ownBlock = some g → wA.heap.size ≤ g := hG5.fresh (fun g hg => by cases hg) (Nat.le_refl _)
      obtain ⟨na, nc, hv5⟩ := hO5.bs.slice
      rw [hLd] at hv5
      subst hv5
      obtain ⟨X, hX⟩ : ∃ X : Nat → Prop, X = (fun k => Y k ∨ (wr.heap.size ≤ k ∧ k < w5.heap.size)) := ⟨_, rfl⟩
      have hsA2 := tA.size
      have hs5 := t5.size
      have hS4 := HS4.out
      have hTw := HTw.out.2
      have hXlt : ∀ k, X k → k < w5.heap.size := fun k e => by
        rw [hX, HYY.out] at e
        omega
      have hXg : X g := by rw [hX, HYY.out]; exact Or.inl (Or.inl rfl)
      have hXA : X gA := by
        rw [hX]
        have : gA < wA.heap.size := lt_of_obj rA
        exact Or.inr ⟨by omega, by omega⟩
      have hXn : ∀ k, (Value.slice na data.length nc).ownBlock = some k → X k := fun k hk => by
        rw [hX]
        exact Or.inr ⟨by have := hf5 k hk; omega, hO5.lt hk⟩
      have hB5 : B ≤ w5.heap.size := by have := HBB.out; have := HTw.out.1.size; omega
      have hP5 : Pr B X w5 p q s s := (HPr.out.avoid (fun k e => by rw [hX] at e; exact e.imp id (fun z => z.1))).turn_no (tA.then_no t5)
      have hO5b := hOA.turn_no t5
      have hTc := HTc.out
      have hnum := hTc.num
      have hmm := hTc.m
      obtain ⟨r1, hr1⟩ : ∃ r1, appS s nA d = r1 := ⟨_, rfl⟩
      have hTc1 : Tc r1.1 (10000 * i + 5000) (2 * i + 1) := by rw [← hr1]; exact hTc.app nA_ok (by omega) (by omega) (by omega)
      obtain ⟨r2, hr2⟩ : ∃ r2, replS r1.1 nB d = r2 := ⟨_, rfl⟩
      have hTc2 : Tc r2.1 (10000 * (i + 1)) (2 * (i + 1)) ∧ r2.2 = 0 := by
        rw [← hr2]
        have := hTc1.repl nB_ok (d := d) (by omega) (by omega) (by omega)
        exact ⟨by have h := this.1; rw [show 10000 * (i + 1) = 10000 * i + 5000 + 5000 by omega, show 2 * (i + 1) = 2 * i + 1 + 1 by omega]; exact h, this.2⟩
      have hn1 := hTc1.num
      have hm1 := hTc1.m
      have hlen97 : nA.length ≤ maxLen := by decide
      have hlen98 : nB.length ≤ maxLen := by decide
      have bsB : ∀ W, Turn (out B X) w5 W → Bs W (.slice (some ⟨g, 0, none⟩) data.length c) d := fun W t => (hO5b.turn t (fun g' hg' e => by cases hg'; exact e.2 hXg)).bs
      have bsN : ∀ W, Turn (out B X) w5 W → Bs W (.slice na data.length nc) d := fun W t => (hO5.turn t (fun g' hg' e => e.2 (hXn g' hg'))).bs
      have hc1 : Calls Try.prog 21 #[.pointer (some ⟨p, 0, none⟩), .string ⟨#[97]⟩, .slice (some ⟨g, 0, none⟩) data.length c] w5 fun e w' => e = .returned (.int .i64 r1.2) ∧ Pr B X w' p q r1.1 s ∧ Turn (out B X) w5 w' := hP5.fst hB5 hXlt (r := r1) (f := 21) (fun K hD hK => by rw [← hr1]; exact append12 hD (by omega) nA hlen97 _ d (bsB w5 (Turn.refl _ _)) (fun hne g' hg' hk' => by cases hg'; exact (hK _ hk').2 hXg))
      have hc2 : ∀ W, Pr B X W p q r1.1 s → Turn (out B X) w5 W → Calls Try.prog 22 #[.pointer (some ⟨q, 0, none⟩), .string ⟨#[97]⟩, .slice na data.length nc] W fun e w' => e = .returned (.int .i64 r1.2) ∧ Pr B X w' p q r1.1 r1.1 ∧ Turn (out B X) W w' := fun W hPW t => hPW.snd (Nat.le_trans hB5 t.size) (fun k hk => Nat.lt_of_lt_of_le (hXlt k hk) t.size) (r := r1) (f := 22) (fun L hR hL => by rw [← hr1]; exact rappend22 hR (by omega) (by omega) nA hlen97 _ d (bsN W t) (fun hne g' hg' hl' => (hL g' hl').2 (hXn g' hg')))
      have hc3 : ∀ W, Pr B X W p q r1.1 r1.1 → Turn (out B X) w5 W → Calls Try.prog 23 #[.pointer (some ⟨p, 0, none⟩), .string ⟨#[98]⟩, .slice (some ⟨g, 0, none⟩) data.length c] W fun e w' => e = .returned (.int .i64 0) ∧ Pr B X w' p q r2.1 r1.1 ∧ Turn (out B X) W w' := fun W hPW t => by
        have h := hPW.fst (Nat.le_trans hB5 t.size) (fun k hk => Nat.lt_of_lt_of_le (hXlt k hk) t.size) (r := r2) (f := 23) (args := #[ptr p, strV nB, .slice (some ⟨g, 0, none⟩) data.length c]) (fun K hD hK => by rw [← hr2]; exact replace43 hD (by omega) nB hlen98 _ d (bsB W t) (fun hne g' hg' hk' => by cases hg'; exact (hK _ hk').2 hXg))
        rw [hTc2.2] at h
        exact h
      have hc4 : ∀ W, Pr B X W p q r2.1 r1.1 → Turn (out B X) w5 W → Calls Try.prog 24 #[.pointer (some ⟨q, 0, none⟩), .string ⟨#[98]⟩, .slice na data.length nc] W fun e w' => e = .returned (.int .i64 r2.2) ∧ Pr B X w' p q r2.1 r2.1 ∧ Turn (out B X) W w' := fun W hPW t => hPW.snd (Nat.le_trans hB5 t.size) (fun k hk => Nat.lt_of_lt_of_le (hXlt k hk) t.size) (r := r2) (f := 24) (fun L hR hL => by rw [← hr2]; exact rreplace24 hR (by omega) (by omega) nB hlen98 _ d (bsN W t) (fun hne g' hg' hl' => (hL g' hl').2 (hXn g' hg')))
      have hst : ∀ (z : Nm) (W : World), z.length ≤ maxLen → Pr B X W p q r2.1 r2.1 → Turn (out B X) w5 W → Calls Try.prog 25 #[.agg #[.pointer (some ⟨p, 0, none⟩), .pointer (some ⟨q, 0, none⟩)], .agg #[.int .i64 6, .int .i64 0, .string ⟨z.toArray⟩, .slice none 0 0, .int .i64 0, .int .i64 0, .int .i64 0, .bool false, .slice none 0 0, .int .u8 0]] W fun e w' => e = .returned (.bool true) ∧ Pr B X w' p q r2.1 r2.1 ∧ Turn (out B X) W w' := fun z W hz hPW t => step6 hPW (Nat.le_trans hB5 t.size) (fun k hk => Nat.lt_of_lt_of_le (hXlt k hk) t.size) ⟨6, 0, z, .slice none 0 0, [], 0, ⟨0, 0, false⟩, .slice none 0 0, [], 0⟩ (oxn 6 z hz) rfl
      have hsA6 : ∀ W, Pr B X W p q r2.1 r2.1 → Turn (out B X) w5 W → Calls Try.prog 25 #[.agg #[.pointer (some ⟨p, 0, none⟩), .pointer (some ⟨q, 0, none⟩)], .agg #[.int .i64 6, .int .i64 0, .string ⟨#[97]⟩, .slice none 0 0, .int .i64 0, .int .i64 0, .int .i64 0, .bool false, .slice none 0 0, .int .u8 0]] W fun e w' => e = .returned (.bool true) ∧ Pr B X w' p q r2.1 r2.1 ∧ Turn (out B X) W w' := fun W => hst nA W hlen97
      have hsB6 : ∀ W, Pr B X W p q r2.1 r2.1 → Turn (out B X) w5 W → Calls Try.prog 25 #[.agg #[.pointer (some ⟨p, 0, none⟩), .pointer (some ⟨q, 0, none⟩)], .agg #[.int .i64 6, .int .i64 0, .string ⟨#[98]⟩, .slice none 0 0, .int .i64 0, .int .i64 0, .int .i64 0, .bool false, .slice none 0 0, .int .u8 0]] W fun e w' => e = .returned (.bool true) ∧ Pr B X w' p q r2.1 r2.1 ∧ Turn (out B X) W w' := fun W => hst nB W hlen98
      have hbox : ∀ W, Turn (out B X) w5 W → W.cell? ⟨gA, 0, none⟩ = some (.pointer (some ⟨p, 0, none⟩)) ∧ W.cell? ⟨gA, 1, none⟩ = some (.pointer (some ⟨q, 0, none⟩)) := fun W t => by
        have r := (rA.turn t5 (fun e => e)).turn t (fun e => e.2 hXA)
        exact ⟨r.cell 0 _ rfl, r.cell 1 _ rfl⟩
      have hspo : ∀ W, Turn (out B X) w5 W → Calls Try.prog 26 #[.slice (some ⟨g, 0, none⟩) data.length c] W fun e w' => e = .returned (.tuple #[]) ∧ ∃ ys : List UInt8, ys.length = d.length ∧ Own w' 5 (.slice (some ⟨g, 0, none⟩) data.length c) (ys.map bv) ∧ Turn (fun k => (Value.slice (some ⟨g, 0, none⟩) data.length c).ownBlock = some k) W w' := fun W t => spoil26_any W _ d (by omega) (hO5b.turn t (fun g' hg' e => by cases hg'; exact e.2 hXg))
      have hown : ∀ k, (Value.slice (some ⟨g, 0, none⟩) data.length c).ownBlock = some k → g = k := fun k e => by simpa [Value.ownBlock] using e
      have HFINL : Shut (∀ W W' (ys : List UInt8), Pr B X W p q r2.1 r2.1 → Turn (out B X) w5 W → ys.length = d.length → Own W' 5 (.slice (some ⟨g, 0, none⟩) data.length c) (ys.map bv) → Turn (fun k => (Value.slice (some ⟨g, 0, none⟩) data.length c).ownBlock = some k) W W' → (ys.length = data.length) ∧ Pr B Y W' p q r2.1 r2.1 ∧ Row W' gk #[.int .i64 data.length, .int .i64 cut] 3 ∧ (Turn no w W' ∧ w4.heap.size ≤ W'.heap.size)) := fun W W' ys hPW t hy hO t' => by
        have tY : Turn Y W W' := t'.mono (fun k _ e => by cases e; rw [HYY.out]; exact Or.inl rfl)
        have hbw := HBB.out
        refine ⟨by omega, (hPW.free (fun k e => by rw [hX]; exact Or.inl e)).turn_X tY, ?_, ?_, ?_⟩
        · exact (((HRk.out.turn tA (fun e => e)).turn t5 (fun e => e)).turn t (fun e => e.2 (by rw [hX, HYY.out]; exact Or.inl (Or.inr rfl)))).turn t' (fun e => by have := hown _ e; omega)
        · have h0 := HT4.out.size
          exact (((HTw.out.1.then_no tA).then_no t5).trans t (fun k hk e => by have := e.1; omega)).trans t' (fun k hk e => by have := hown _ e; have := HGW.out; omega)
        · have := t.size; have := t'.size; omega
      have hap5 : ∀ ty, (Builtin.append_ #[28, 28] ty #[.slice none 0 0, .slice (some ⟨g, 0, none⟩) data.length c]).run Try.prog wA = .ok (.slice na data.length nc) w5 := fun ty => hr5
      have HTC2 := shut hTc2.1
      have HC1 := shut hc1
      have HC2 := shut hc2
      have HC3 := shut hc3
      have HC4 := shut hc4
      have HSA := shut hsA6
      have HSB := shut hsB6
      have HBOX := shut hbox
      have HSPO := shut hspo
      obtain ⟨r1a, r1b⟩ := r1
      obtain ⟨r2a, r2b⟩ := r2
      have hlt2 := hlt
      have HLT := shut hlt
      clear hown hlt2 hc1 hc2 hc3 hc4 hst hsA6 hsB6 hbox hspo bsB bsN hTc2 hTc1 hr1 hr2 hTc hnum hmm hn1 hm1 hO5b hP5 hXlt hXg hXA hXn hX hO5 hf5 t5 hG5 hr5 hsA hOA rA tA hsA2 hs5 hS4 hTw hB5 hDL hLd hlen97 hlen98
      simp only at *
      go_wp2_with (at_builtin; refine wpList_append_run rfl _ _ (t := 28) (tx := 28) rfl _ _ rfl rfl (hap5 _) ?_)
      refine HC1.out.mono ?_
      rintro e w6 ⟨rfl, hP6, t6⟩
      have HP6 := shut hP6
      have HT6 := shut t6
      clear hP6 t6
      go_wp2_with fail
      refine (HC2.out w6 HP6.out HT6.out).mono ?_
      rintro e w7 ⟨rfl, hP7, t7⟩
      have HP7 := shut hP7
      have HT7 := shut (HT6.out.trans t7 (fun k _ e => e))
      clear hP7 t7
      go_wp2_with fail
      refine (HC3.out w7 HP7.out HT7.out).mono ?_
      rintro e w8 ⟨rfl, hP8, t8⟩
      have HP8 := shut hP8
      have HT8 := shut (HT7.out.trans t8 (fun k _ e => e))
      clear hP8 t8
      go_wp2_with fail
      refine (HC4.out w8 HP8.out HT8.out).mono ?_
      rintro e w9 ⟨rfl, hP9, t9⟩
      have HP9 := shut hP9
      have HT9 := shut (HT8.out.trans t9 (fun k _ e => e))
      obtain ⟨b0, b1⟩ := HBOX.out w9 HT9.out
      clear hP9 t9
      go_wp2_with fail
      refine (HNUM.out _ _).mono ?_
      rintro e w' ⟨rfl, rfl⟩
      go_wp2_with fail
      refine (HNUM.out _ _).mono ?_
      rintro e w' ⟨rfl, rfl⟩
      go_wp2_with fail
      refine (HNUM.out _ _).mono ?_
      rintro e w' ⟨rfl, rfl⟩
      go_wp2_with fail
      refine (HSA.out _ HP9.out HT9.out).mono ?_
      rintro e w10 ⟨rfl, hP10, t10⟩
      have HP10 := shut hP10
      have HT10 := shut (HT9.out.trans t10 (fun k _ e => e))
      obtain ⟨c0, c1⟩ := HBOX.out w10 HT10.out
      clear hP10 t10 b0 b1
      go_wp2_with fail
      refine (HSB.out _ HP10.out HT10.out).mono ?_
      rintro e w11 ⟨rfl, hP11, t11⟩
      have HP11 := shut hP11
      have HT11 := shut (HT10.out.trans t11 (fun k _ e => e))
      clear hP11 t11 c0 c1
      go_wp2_with fail
      refine (HSPO.out _ HT11.out).mono ?_
      rintro e w12 ⟨rfl, ys, hy, hO12, t12⟩
      obtain ⟨f1, f2, f3, f4⟩ := HFINL.out w11 w12 ys HP11.out HT11.out hy hO12 t12
      have G1 := shut f1
      have G2 := shut f2
      have G3 := shut f3
      have G4 := shut f4
      have G5 := shut hO12
      clear f1 f2 f3 f4 hO12 t12 hy
      go_wp2_with fail
      go_roundw
      case rel => exact ⟨i + 1, ys, r2a, by have := HLT.out; omega, by go_num, G1, G5, HTC2, G2, G3, G4⟩
      case measure => have := HLT.out; simp [intOf]; omega
    · have hlt' : ¬ (i : Int) < 2 := by omega
      have hi2 : i = 2 := by omega
      subst hi2
      obtain ⟨KD, LD, hD, hR, hKL, hKB, hLB⟩ := HPr.out
      have hTc := HTc.out
      have hvk : Vs wr (.slice (some ⟨gk, 0, none⟩) 2 2) ([(data.length : Int), cut].map iv) := Or.inr ⟨⟨gk, 0, none⟩, 2, rfl, by simp, by simp [maxLen], fun j u hu => by
        rw [Addr.add_lit]
        have := HRk.out.cell j u (by simpa [iv] using hu)
        simpa using this⟩
      obtain ⟨fl, hfl⟩ : ∃ fl, crashL s.fs [(data.length : Int), cut] 0 = fl := ⟨_, rfl⟩
      have hcr := crash15D hD hTc.out (.slice (some ⟨gk, 0, none⟩) 2 2) [(data.length : Int), cut] hvk 0
      rw [hfl] at hcr
      have HD := shut hD
      have HR := shut hR
      have HKLB := shut (And.intro hKL (And.intro hKB hLB))
      have HVK := shut hvk
      clear hD hR hKL hKB hLB hTc hvk
      unfold ptr at *
      go_wp2_with fail
      refine hcr.mono ?_
      clear hcr
      rintro e w5 ⟨v5, rfl, hI5, hD5, t5⟩
      obtain ⟨ia, ic, rfl, _, _⟩ := hI5.im.form
      obtain ⟨w6, hw6⟩ : ∃ w6, w5.alloc (.cells #[.slice ia fl.length ic] 24) = w6 := ⟨_, rfl⟩
      have hLk : Lk s.fs fl := by rw [← hfl]; exact Lk.crash _ _ _
      have t6 : Turn no w5 w6 := by rw [← hw6]; exact (Turn.refl no w5).alloc _
      obtain ⟨g6, hg6⟩ : ∃ g6, w5.heap.size = g6 := ⟨_, rfl⟩
      have r6 : Row w6 g6 #[.slice ia fl.length ic] 24 := by rw [← hw6]; exact Row.newAt _ _ _ _ hg6.symm
      have T06 : Turn KD wr w6 := t5.then_no t6
      obtain ⟨hKL, hKB, hLB⟩ := HKLB.out
      have hLlt := HR.out.klt
      have hKlt := HD.out.klt
      have hcr2 := crash28_any (HR.out.turn T06 (fun k hk e => hKL k e hk)) (.slice (some ⟨gk, 0, none⟩) 2 2) [(data.length : Int), cut] (HVK.out.turn T06 (fun g' hg' e => by cases hg'; exact (hKB _ e).2 (by rw [HYY.out]; exact Or.inr rfl))) (fun _ g' hg' hl => by cases hg'; exact (hLB _ hl).2 (by rw [HYY.out]; exact Or.inr rfl)) 0
      have eE : crE s = 0 := by simp [crE, HTc.out.out]
      have eI : crI s [(data.length : Int), cut] 0 = fl := by simp only [crI, HTc.out.out]; exact hfl
      rw [eE, eI] at hcr2
      have HI6 := shut (hI5.turn_no t6)
      have HR6 := shut r6
      have HT6 := shut T06
      have HLK := shut hLk
      have HLLT := shut hLlt
      have HS6 := shut t6.size
      have HKL2 := shut t5.size
      have HFL := shut hfl
      clear hI5 hD5 t5 t6 r6 T06 hKL hKB hLB hLlt hKlt hLk eE eI hfl
      unfold ptr at *
      go_wp2_with fail
      refine hcr2.mono ?_
      clear hcr2
      rintro e w7 ⟨ja, jn, jc, rfl, hI7, hR7, t7⟩
      obtain ⟨w8, hw8⟩ : ∃ w8, w7.alloc (.cells #[.slice ja jn jc] 24) = w8 := ⟨_, rfl⟩
      have t8 : Turn no w7 w8 := by rw [← hw8]; exact (Turn.refl no w7).alloc _
      obtain ⟨g8, hg8⟩ : ∃ g8, w7.heap.size = g8 := ⟨_, rfl⟩
      have r8 : Row w8 g8 #[.slice ja jn jc] 24 := by rw [← hw8]; exact Row.newAt _ _ _ _ hg8.symm
      have T68 : Turn LD w6 w8 := t7.then_no t8
      have hLb : ∀ k, LD k → k < wr.heap.size := HLLT.out
      have hI8 := HI6.out.turn T68 (fun k e => hLb k e)
      have r68 := HR6.out.turn T68 (fun e => by have := hLb _ e; have := HKL2.out; omega)
      have hsi := sameImage27 hI8.im (hI7.turn_no t8)
      have c1 := r68.cell 0 _ rfl
      have c2 := r8.cell 0 _ rfl
      have HI8 := shut hI8
      have HR68 := shut r68
      have hbw := HBB.out
      obtain ⟨hKL, hKB, hLB⟩ := HKLB.out
      have HT8 : Shut (Turn no w w8 ∧ wr.heap.size ≤ w8.heap.size) := ⟨(HTw.out.1.trans HT6.out (fun k hk e => by have := (hKB k e).1; omega)).trans T68 (fun k hk e => by have := (hLB k e).1; omega), by have := HT6.out.size; have := T68.size; omega⟩
      have HIV : Shut (Inv s) := by
        obtain ⟨_, _, _, hd⟩ := HD.out
        exact hd.inv
      clear hI7 hR7 t7 t8 r8 T68 hLb hI8 r68 hKL hKB hLB hbw
      go_wp2_with fail
      refine (HNUM.out _ _).mono ?_
      rintro e w' ⟨rfl, rfl⟩
      go_wp2_with fail
      refine hsi.mono ?_
      clear hsi
      rintro e w9 ⟨rfl, t9⟩
      have HI9 := shut (HI8.out.turn_no t9)
      have HR9 := shut (HR68.out.turn t9 (fun e => e))
      have HT9 : Shut (Turn no w w9 ∧ wr.heap.size ≤ w9.heap.size) := ⟨HT8.out.1.then_no t9, by have := HT8.out.2; have := t9.size; omega⟩
      obtain ⟨BI, hBI⟩ : ∃ BI, wr.heap.size = BI := ⟨_, rfl⟩
      rw [hBI] at HI9
      have HBI : Shut (w.heap.size ≤ BI) := by have := HTw.out.1.size; show w.heap.size ≤ BI; omega
      clear t9 hBI c1 c2
      go_wp2_with fail
      go_loopw [21] (fun x wx => ∃ (j : Nat) (f2 : List Fi), j ≤ 2 ∧ x = .int .i64 j ∧ Shut (ImD BI wx (.slice ia fl.length ic) f2) ∧ Shut (Lk s.fs f2) ∧ Shut (Row wx g6 #[.slice ia fl.length ic] 24) ∧ Shut (Turn no w wx)) (fun x _ => 2 - (intOf x).toNat)
      case atStart => exact ⟨0, fl, by omega, rfl, HI9, HLK, HR9, HT9.out.1⟩
      case round =>
        obtain ⟨j, f2, hj, rfl, HIx, HLx, HRx, HTx⟩ := hrel
        by_cases hjt : j < 2
        · have hjt' : (j : Int) < 2 := by omega
          have HJT := shut hjt
          have hl2 : f2.length = fl.length := by rw [HLx.out.len, HLK.out.len]
          have hcnt : f2.length ≤ 65536 := by rw [HLx.out.len]; exact HIV.out.count
          have hlim := HTc.out.lim
          have hshort : ∀ x ∈ f2, x.2.length ≤ 1073741824 := fun x hx => by
            obtain ⟨k, hk⟩ := List.mem_iff_getElem?.1 hx
            have hkl := (List.getElem?_eq_some_iff.1 hk).1
            obtain ⟨f, hf⟩ : ∃ f, s.fs[k]? = some f := ⟨s.fs[k]'(by have := HLx.out.len; omega), List.getElem?_eq_getElem _⟩
            have h1 := HLx.out.short k f x hf hk
            have h2 := lenF_le f.nm s.fs
            have h3 := HIV.out.used
            have h4 : lenF f.nm s.fs = f.bs.length := by simp [lenF, getF_of_mem HIV.out.sorted (List.mem_of_getElem? hf)]
            omega
          have hnames : ∀ x ∈ f2, x.1.length ≤ maxLen := fun x hx => by
            have hm : x.1 ∈ s.fs.map Pf.nm := by rw [← HLx.out.names]; exact List.mem_map.2 ⟨x, hx, rfl⟩
            obtain ⟨f, hf, e⟩ := List.mem_map.1 hm
            have := isNm_len (HIV.out.names f hf)
            rw [← e]
            simp only [maxLen]
            omega
          have hcp := copied24 HIx.out.im hcnt hshort
          have cx := HRx.out.cell 0 _ rfl
          have HSH := shut hshort
          have HNMS := shut hnames
          have HL2 := shut hl2
          clear hshort hnames hcnt hl2
          obtain ⟨C, hC⟩ : ∃ C, wr.heap.size = C := ⟨_, rfl⟩
          rw [hC] at hcp
          have HC := shut hC
          clear hC
          go_wp2_with fail
          refine hcp.mono ?_
          clear hcp
          rintro e wa ⟨v', rfl, hIa, ta⟩
          obtain ⟨na, nc, rfl, _, _⟩ := hIa.form
          obtain ⟨wb, hwb⟩ : ∃ wb, wa.alloc (.cells #[.slice na f2.length nc] 24) = wb := ⟨_, rfl⟩
          have tb : Turn no wa wb := by rw [← hwb]; exact (Turn.refl no wa).alloc _
          obtain ⟨gB, hgB⟩ : ∃ gB, wa.heap.size = gB := ⟨_, rfl⟩
          have rB : Row wb gB #[.slice na f2.length nc] 24 := by rw [← hwb]; exact Row.newAt _ _ _ _ hgB.symm
          have tab := ta.then_no tb
          obtain ⟨la, lcap, l, el, hml, hFs⟩ := (HIx.out.turn_no tab).im.fs HNMS.out
          obtain ⟨e1, e2, e3⟩ : ia = la ∧ fl.length = l.length ∧ ic = lcap := by simp at el; exact el
          subst e1 e3
          have hmt := mount25 wb.heap.size wb (Nat.le_refl _) ia ic l hFs 1048576
          obtain ⟨hok, hfs⟩ := Lk.mount (l := l) HIV.out HTc.out.lim (by rw [hml]; exact HLx.out)
          rw [← e2] at hmt
          have cx2 := (HRx.out.turn tab (fun e => e)).cell 0 _ rfl
          have HIa := shut (hIa.turn_no tb)
          have HRB := shut rB
          have HTab := shut tab
          have HML := shut hml
          have HOK := shut hok
          have HFSS := shut hfs
          have HE2 := shut e2
          have HGB : Shut (C ≤ gB ∧ C ≤ wb.heap.size) := by have := HC.out; have := ta.size; have := tb.size; exact ⟨by omega, by omega⟩
          clear hIa ta tb rB tab el hml hFs hok hfs e2 cx
          go_wp2_with fail
          refine hmt.mono ?_
          clear hmt
          rintro e wm hh
          rcases hh with ⟨hh, _⟩ | ⟨_, qM, KM, rfl, _, hDM, hKM, tM⟩
          · exact absurd (hh.symm.trans HOK.out) (by simp)
          have HDM : Shut (Dk wm qM KM (mSt 1048576 l)) := hDM
          have HKM := shut hKM
          have HTM := shut tM
          clear hDM hKM tM cx2
          unfold ptr
          go_wp2_with fail
          refine (HNUM.out _ _).mono ?_
          rintro e w' ⟨rfl, rfl⟩
          go_wp2_with fail
          have hinv : Inv (mSt 1048576 l) := by
            obtain ⟨_, _, _, hd⟩ := HDM.out
            exact hd.inv
          have HINV := shut hinv
          have hKMC : ∀ b, KM b → C ≤ b := fun b hb => by
            rcases HKM.out b hb with z | z
            · exact z.elim
            · have := HGB.out.2; omega
          have HKMC := shut hKMC
          have tw' := HTab.out.then_no HTM.out
          have HU0 : Shut (∀ (k : Nat) (gI : Nat), k < fl.length → ia = some ⟨gI, 0, none⟩ → ∀ u, w'.cell? ⟨gI, k * 2 + 1, none⟩ = some u → ∀ b, u.ownBlock = some b → b < C) := fun k gI hk eg u hu b hb => by
            have hl2 := HL2.out
            obtain ⟨x, hx⟩ : ∃ x, f2[k]? = some x := ⟨f2[k]'(by omega), List.getElem?_eq_getElem _⟩
            obtain ⟨g', c', a', n', c2', ev, _, m1, hOu, _⟩ := HIx.out.im.at28 k x hx
            rw [eg] at ev
            have eg' : gI = g' := by simp at ev; exact ev.1
            subst eg'
            have := tw'.keep m1 (fun e => e)
            rw [this] at hu
            cases hu
            have := hOu.lt hb
            have := HC.out
            omega
          have HI0 := shut (HIx.out.turn_no tw')
          have HR0 := shut (HRx.out.turn tw' (fun e => e))
          have HB0 := shut (HRB.out.turn HTM.out (fun e => e))
          have HN0 := shut (HIa.out.turn_no HTM.out)
          have HTW0 := shut (HTx.out.then_no tw')
          have hfll : fl.length ≤ 9223372036854775807 := by have := HL2.out; have := HLx.out.len; have := HIV.out.count; omega
          clear hinv hKMC tw' HIx HRx HIa HRB
          go_loopw [25] (fun x wy => ∃ (k : Nat) (f3 : List Fi), k ≤ fl.length ∧ x = .int .i64 k ∧ Shut (ImD BI wy (.slice ia fl.length ic) f3) ∧ Shut (Lk s.fs f3) ∧ Shut (Row wy g6 #[.slice ia fl.length ic] 24) ∧ Shut (Row wy gB #[.slice na f2.length nc] 24) ∧ Shut (Im C wy (.slice na f2.length nc) f2) ∧ Shut (Dk wy qM KM (mSt 1048576 l)) ∧ Shut (∀ (k : Nat) (gI : Nat), k < fl.length → ia = some ⟨gI, 0, none⟩ → ∀ u, wy.cell? ⟨gI, k * 2 + 1, none⟩ = some u → ∀ b, u.ownBlock = some b → b < C) ∧ Shut (Turn no w wy)) (fun x _ => fl.length - (intOf x).toNat)
          case atStart => exact ⟨0, f2, Nat.zero_le _, rfl, HI0, HLx, HR0, HB0, HN0, HDM, HU0, HTW0⟩
          case round =>
            obtain ⟨k, f3, hk, rfl, HI3, HL3, HR3, HB3, HN3, HD3, HU3, HT3⟩ := hrel
            have cg := HR3.out.cell 0 _ rfl
            by_cases hkt : k < fl.length
            · have hkt' : (k : Int) < (fl.length : Int) := by omega
              have hl2 := HL2.out
              have hl3 : f3.length = fl.length := by rw [HL3.out.len, HLK.out.len]
              have hkt2 : (k : Int) < (f2.length : Int) := by omega
              obtain ⟨x3, hx3⟩ : ∃ x, f3[k]? = some x := ⟨f3[k]'(by omega), List.getElem?_eq_getElem _⟩
              obtain ⟨x2, hx2⟩ : ∃ x, f2[k]? = some x := ⟨f2[k]'(by omega), List.getElem?_eq_getElem _⟩
              have hnm : x3.1 = x2.1 := by
                have h1 : (f3.map (·.1))[k]? = (f2.map (·.1))[k]? := by rw [HL3.out.names, HLx.out.names]
                simpa [hx3, hx2] using h1
              obtain ⟨fx, hfx⟩ : ∃ fx, l[k]? = some fx := ⟨l[k]'(by have := HE2.out; omega), List.getElem?_eq_getElem _⟩
              have hfx2 : (fx.nm, fx.bs) = x2 := by
                have h1 : (l.map (fun f => (f.nm, f.bs)))[k]? = f2[k]? := by rw [HML.out]
                simpa [hfx, hx2] using h1
              obtain ⟨hfe, hrd⟩ := mount_read HINV.out HFSS.out hfx
              have en : fx.nm = x3.1 := by rw [hnm, ← hfx2]
              have eb : fx.bs = x2.2 := by rw [← hfx2]
              rw [en] at hfe hrd
              rw [eb] at hrd
              have hnl : x3.1.length ≤ maxLen := by rw [hnm]; exact HNMS.out x2 (List.mem_of_getElem? hx2)
              obtain ⟨gI, ci, u, ev, n0, n1, hO, hBu, hsp⟩ := HI3.out.spoil (w' := wr) hx3
              have eia : ia = some ⟨gI, 0, none⟩ := by simp at ev; exact ev.1
              subst eia
              obtain ⟨gI', _, ua, un, uc, ev', _, n1', hO', _, hBg, curI, hcurI⟩ := HI3.out.im.at28 k x3 hx3
              have egI : gI = gI' := by simp at ev'; exact ev'.1
              subst egI
              have eu : u = .slice ua un uc := by rw [n1] at n1'; cases n1'; rfl
              subst eu
              obtain ⟨gN, cN, aN, nN, cN', eN, _, q2, hON, hBN, hgN, _⟩ := HN3.out.at28 k x2 hx2
              have ena : na = some ⟨gN, 0, none⟩ := by simp at eN; exact eN.1
              subst ena
              have hub : ∀ b, (Value.slice ua un uc).ownBlock = some b → b < C := HU3.out k gI hkt rfl _ n1
              have hne66 : ¬ (Value.slice ua un uc).ownBlock = some gI := fun e => by
                obtain ⟨c1, e1⟩ := hO.obj e
                exact absurd (tag_ne e1 hcurI) (by decide)
              have hne24 : ¬ (Value.slice ua un uc).ownBlock = some g6 := fun e => by
                obtain ⟨c1, e1⟩ := hO.obj e
                exact absurd (tag_ne e1 HR3.out) (by decide)
              have hall : ∀ W, Turn (fun b => (Value.slice ua un uc).ownBlock = some b) wr W → W.cell? ⟨g6, 0, none⟩ = some (.slice (some ⟨gI, 0, none⟩) fl.length ic) ∧ W.cell? ⟨gI, k * 2, none⟩ = some (.string ⟨x3.1.toArray⟩) ∧ W.cell? ⟨gI, k * 2 + 1, none⟩ = some (.slice ua un uc) ∧ W.cell? ⟨gB, 0, none⟩ = some (.slice (some ⟨gN, 0, none⟩) f2.length nc) ∧ W.cell? ⟨gN, k * 2 + 1, none⟩ = some (.slice aN nN cN') ∧ Own W 5 (.slice aN nN cN') (x2.2.map bv) ∧ Dk W qM KM (mSt 1048576 l) := fun W t => by
                have hgb := HGB.out
                exact ⟨t.keep cg hne24, t.keep n0 hne66, t.keep n1 hne66, t.keep (HB3.out.cell 0 _ rfl) (fun e => by have := hub _ e; simp only at this; omega), t.keep q2 (fun e => by have := hub _ e; simp only at this; omega), hON.turn t (fun b hb e => by have := hub b e; have := hBN b hb; omega), HD3.out.turn t (fun b hb e => by have := hub b e; have := HKMC.out b hb; omega)⟩
              have HALL := shut hall
              have hrdc : ∀ W, Turn (fun b => (Value.slice ua un uc).ownBlock = some b) wr W → Calls Try.prog 31 #[.pointer (some ⟨qM, 0, none⟩), .string ⟨x3.1.toArray⟩] W fun e w' => ∃ v, e = .returned (.tuple #[v, .int .i64 0]) ∧ Own w' 5 v (x2.2.map bv) ∧ (∀ g, v.ownBlock = some g → W.heap.size ≤ g) ∧ Turn no W w' := fun W t => by
                have h := read20 (HALL.out W t).2.2.2.2.2.2 x3.1 hnl
                rw [hfe, hrd] at h
                exact h
              have HRD := shut hrdc
              have hspo : ∀ W, Turn no wr W → Calls Try.prog 26 #[.slice ua un uc] W fun e w' => e = .returned (.tuple #[]) ∧ ∃ ys : List UInt8, ys.length = x3.2.length ∧ Own w' 5 (.slice ua un uc) (ys.map bv) ∧ Turn (fun k => (Value.slice ua un uc).ownBlock = some k) W w' := fun W t => spoil26_any W _ x3.2 (by
                obtain ⟨f, hf⟩ : ∃ f, s.fs[k]? = some f := ⟨s.fs[k]'(by have := HL3.out.len; omega), List.getElem?_eq_getElem _⟩
                have h1 := HL3.out.short k f x3 hf hx3
                have h2 := lenF_le f.nm s.fs
                have h3 := HIV.out.used
                have h4 : lenF f.nm s.fs = f.bs.length := by simp [lenF, getF_of_mem HIV.out.sorted (List.mem_of_getElem? hf)]
                have h5 := HIV.out.lim
                omega) (hO.turn_no t)
              have HSPO := shut hspo
              have HEND : Shut (∀ W (ys : List UInt8), Turn (fun b => (Value.slice ua un uc).ownBlock = some b) wr W → Own W 5 (.slice ua un uc) (ys.map bv) → ys.length = x3.2.length → ImD BI W (.slice (some ⟨gI, 0, none⟩) fl.length ic) (f3.set k (x3.1, ys)) ∧ Lk s.fs (f3.set k (x3.1, ys)) ∧ Row W g6 #[.slice (some ⟨gI, 0, none⟩) fl.length ic] 24 ∧ Row W gB #[.slice (some ⟨gN, 0, none⟩) f2.length nc] 24 ∧ Im C W (.slice (some ⟨gN, 0, none⟩) f2.length nc) f2 ∧ Dk W qM KM (mSt 1048576 l) ∧ (∀ (k : Nat) (gI' : Nat), k < fl.length → some (⟨gI, 0, none⟩ : Addr) = some ⟨gI', 0, none⟩ → ∀ u, W.cell? ⟨gI', k * 2 + 1, none⟩ = some u → ∀ b, u.ownBlock = some b → b < C) ∧ Turn no w W) := fun W ys t hOy hy => by
                have hgb := HGB.out
                have hbi := HBI.out
                refine ⟨hsp W ys t hOy hy, HL3.out.set hx3 ys hy, HR3.out.turn t hne24, HB3.out.turn t (fun e => by have := hub _ e; omega), HN3.out.turn t (fun b e => hub b e), (HALL.out W t).2.2.2.2.2.2, fun k' gI' hk' eg u' hu' b hb => ?_, HT3.out.trans t (fun b hb e => by have := hBu b e; omega)⟩
                cases eg
                obtain ⟨x', hx'⟩ : ∃ x, f3[k']? = some x := ⟨f3[k']'(by omega), List.getElem?_eq_getElem _⟩
                obtain ⟨g'', _, _, _, _, ev'', _, m1, _⟩ := HI3.out.im.at28 k' x' hx'
                have eg'' : gI = g'' := by simp at ev''; exact ev''.1
                subst eg''
                have := t.keep m1 hne66
                rw [this] at hu'
                cases hu'
                exact HU3.out k' gI hk' rfl _ m1 b hb
              have n0' : wr.cell? ⟨gI, k * 2, none⟩ = some (.string ⟨x3.1.toArray⟩) := n0
              have HKT := shut hkt
              clear hall hrdc hspo hsp hO hO' hBu hub hne66 hne24 hON hBN hgN q2 n1 n1' n0 ev ev' eN hfe hrd en eb hfx hfx2 hnm hx2 hx3 hnl hcurI hBg hl3 hl2
              go_wp2_with fail
              refine (HRD.out wr (Turn.refl _ _)).mono ?_
              rintro e wq ⟨v1, rfl, hO1, _, t1⟩
              obtain ⟨a1, n1, c1, rfl⟩ : ∃ a n c, v1 = .slice a n c := by
                rcases hO1.shape with ⟨e, _⟩ | ⟨_, _, _, e, _⟩
                · exact ⟨_, _, _, e⟩
                · exact ⟨_, _, _, e⟩
              obtain ⟨z0, z1, z2, z3, z4, hON1, _⟩ := HALL.out wq t1.of_no
              have cv1 := fun n => bytes_text (hO1.turn_no ((Turn.refl no wq).drewN n)).bs
              have cv2 := fun n => bytes_text (hON1.turn_no ((Turn.refl no wq).drewN n)).bs
              have HT1' := shut t1
              clear hO1 t1 hON1 cg n0'
              go_wp2_with fail
              go_quiet ((go_at_call 12; exact Calls.quiet_of_same (HNUM.out _ _)))
              have tq : Turn no wr (wq.drewN nq) := HT1'.out.then_no ((Turn.refl no wq).drewN nq)
              have hspw := HSPO.out _ tq
              have HTQ := shut tq
              obtain ⟨x0, x1, x2', _, _, _, _⟩ := HALL.out (wq.drewN nq) tq.of_no
              clear cv1 cv2 z0 z1 z2 z3 z4 tq
              go_wp2_with fail
              refine hspw.mono ?_
              clear hspw x0 x1 x2'
              rintro e w2x ⟨rfl, ys, hy, hOy, t2⟩
              have T2x : Turn (fun b => (Value.slice ua un uc).ownBlock = some b) wr w2x := (HTQ.out.of_no).trans t2 (fun _ _ e => e)
              obtain ⟨y0, y1, _, _, _, _, _⟩ := HALL.out w2x T2x
              have HOY := shut hOy
              have HY := shut hy
              have HT2X := shut T2x
              clear hOy hy t2 T2x
              go_wp2_with fail
              refine (HRD.out w2x HT2X.out).mono ?_
              rintro e w3x ⟨v2, rfl, hO2, _, t3⟩
              obtain ⟨a2, n2, c2, rfl⟩ : ∃ a n c, v2 = .slice a n c := by
                rcases hO2.shape with ⟨e, _⟩ | ⟨_, _, _, e, _⟩
                · exact ⟨_, _, _, e⟩
                · exact ⟨_, _, _, e⟩
              have T3x := HT2X.out.then_no t3
              obtain ⟨z0, z1, z2, z3, z4, hON1, _⟩ := HALL.out w3x T3x
              have cv1 := fun n => bytes_text (hO2.turn_no ((Turn.refl no w3x).drewN n)).bs
              have cv2 := fun n => bytes_text (hON1.turn_no ((Turn.refl no w3x).drewN n)).bs
              have HT3X := shut T3x
              have HOY3 := shut (HOY.out.turn_no t3)
              clear hO2 t3 hON1 T3x y0 y1
              go_wp2_with fail
              go_quiet ((go_at_call 12; exact Calls.quiet_of_same (HNUM.out _ _)))
              obtain ⟨E1, E2, E3, E4, E5, E6, E7, E8⟩ := HEND.out (w3x.drewN nq) ys (HT3X.out.then_no ((Turn.refl no w3x).drewN nq)) (HOY3.out.turn_no ((Turn.refl no w3x).drewN nq)) HY.out
              have F1 := shut E1
              have F2 := shut E2
              have F3 := shut E3
              have F4 := shut E4
              have F5 := shut E5
              have F6 := shut E6
              have F7 := shut E7
              have F8 := shut E8
              clear E1 E2 E3 E4 E5 E6 E7 E8 cv1 cv2 z0 z1 z2 z3 z4
              go_wp2_with fail
              go_roundw
              case rel => exact ⟨k + 1, f3.set k (x3.1, ys), by have := HKT.out; omega, by go_num, F1, F2, F3, F4, F5, F6, F7, F8⟩
              case measure => have := HKT.out; simp [intOf]; omega
            · have hkt' : ¬ (k : Int) < (fl.length : Int) := by omega
              go_wp2_with fail
              go_roundw
              case rel => exact ⟨j + 1, f3, by have := HJT.out; omega, by go_num, HI3, HL3, HR3, HT3⟩
              case measure => have := HJT.out; simp [intOf]; omega
        · have hjt' : ¬ (j : Int) < 2 := by omega
          go_wp2_with fail
          go_ret
          exact ⟨rfl, HTx.out⟩
end Go.Proofs.Ytcdogciacchigab
