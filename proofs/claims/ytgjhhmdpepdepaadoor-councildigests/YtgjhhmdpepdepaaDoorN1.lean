/- What is digested of a member: both sides. -/
import Derived.Test.YtgjhhmdpepdepaaDoorK1
import Derived.Test.YtgjhhmdpepdepaaDoorW
import Derived.Test.YtgjhhmdpepdepaaDoorC9
namespace Go.Proofs.YtgjhhmdpepdepaaDoor
open Go.RowKit
set_option linter.unusedVariables false

/-- A member's item. -/
def itB (m : Mb) : List UInt8 := leB m.ad 8 ++ leB m.pw 8
theorem itB_len (m : Mb) : (itB m).length = 16 := by simp [itB, leB_length]
set_option maxRecDepth 100000 in
set_option maxHeartbeats 4000000 in
theorem itemOf11 (w : World) (m : Mb) (hm : m.ok) : Calls Tryd.prog 11 #[.agg #[.int .u64 m.ad, .int .u64 m.pw, .int .i64 m.pr]] w fun e w' => ∃ v, e = .returned (.tuple #[v, .int .i64 0]) ∧ Own w' 5 v ((itB m).map bv) ∧ (∀ g, v.ownBlock = some g → w.heap.size ≤ g) ∧ Turn no w w' := by
  obtain ⟨w0, hw0⟩ : ∃ w0, w.alloc (.cells #[.int .u64 m.ad, .int .u64 m.pw, .int .i64 m.pr] 37) = w0 := ⟨_, rfl⟩
  have T0 : Turn no w w0 := by rw [← hw0]; exact (Turn.refl no w).alloc _
  have R0 : Row w0 w.heap.size #[.int .u64 m.ad, .int .u64 m.pw, .int .i64 m.pr] 37 := by rw [← hw0]; exact Row.new w _ 37
  have x0 := R0.cell 0 _ rfl
  have x1 := R0.cell 1 _ rfl
  have HN := shut (newWriter_any w0)
  have HT0 := shut T0
  have HR0 := shut R0
  have HM : Shut m.ok := hm
  clear hm T0 R0
  go_enter Tryd.func11, Tryd.ntmps11
  go_upto_region 1 with fail
  try rw [hw0]
  clear hw0
  go_upto_region 2 with (go_at_call 20; refine HN.out.mono ?_; clear HN; rintro e w1 ⟨rfl, W1, t1⟩)
  have c0 := t1.keep x0 (fun q => q)
  have c1 := t1.keep x1 (fun q => q)
  have lp := HR0.out.lt
  have k1 := shut (wu64_made w1 w0.heap.size _ [] W1 m.ad HM.out.1 (by simp))
  have F1 : Shut (∀ v, Turn (wfoot w0.heap.size (.slice none 0 0)) w1 v → v.cell? ⟨w.heap.size, 1, none⟩ = some (.int .u64 m.pw)) := fun v t => t.keep c1 (fun q => by
    rcases q with q | q
    · have : w.heap.size = w0.heap.size := q
      omega
    · cases q)
  clear x0 x1 c1
  obtain ⟨p, hp⟩ : ∃ p, Hid (w0.heap.size = p) := ⟨_, rfl⟩
  have HT1 := shut (HT0.out.then_no t1)
  have hpw : Shut (w.heap.size < p) := by show _ < _; rw [← hp.out]; exact lp
  rw [show w0.heap.size = p from hp.out] at k1 F1 ⊢
  clear t1 W1 lp
  go_upto_region 3 with (go_at_call 21; refine k1.out.mono ?_; clear k1; rintro e w2 ⟨rfl, v2, W2, t2, n2⟩)
  have c1 := F1.out w2 t2
  have k2 := shut (wu64_made w2 p v2 _ W2 m.pw HM.out.2.1 (by simp [leB_length]))
  have HT2 := shut t2
  have HN2 := shut n2
  clear t2 n2 W2 c0 F1
  go_upto_region 4 with (go_at_call 21; refine k2.out.mono ?_; clear k2; rintro e w3 ⟨rfl, v3, W3, t3, n3⟩)
  have k3 := shut (out_made w3 p v3 _ W3 (by simp [leB_length]))
  have T3 : Shut (Turn no w w3) := by
    have q1 : Turn (fun k => w.heap.size ≤ k) w w2 := (HT1.out.of_no (S := fun k => w.heap.size ≤ k)).trans HT2.out (fun i hi q => by
      rcases q with q | q
      · have := hpw.out; omega
      · cases q)
    have hs1 := HT1.out.size
    refine (q1.trans t3 (fun i hi q => ?_)).mono (fun i hi q => by omega)
    rcases q with q | q
    · have := hpw.out; omega
    · rcases HN2.out with e | ⟨g, e, hg⟩
      · rw [e] at q; cases q
      · rw [e] at q; cases q; omega
  have hsz := T3.out.size
  clear c1 W3 t3 n3
  go_wp2_with (go_at_call 22; refine k3.out.mono ?_; clear k3; rintro e w4 ⟨v4, rfl, O4, f4, t4⟩; obtain ⟨a4, l4, c4, rfl⟩ := O4.form)
  go_ret2
  exact ⟨_, rfl, by simpa [itB] using O4, fun g hg => by have := f4 g hg; omega, T3.out.then_no t4⟩
set_option maxRecDepth 100000 in
set_option maxHeartbeats 4000000 in
theorem word31 (w : World) (v : Value) (bs : List UInt8) (n : Nat) (hn : n < 18446744073709551616) (h : Own w 5 v (bs.map bv)) (hle : bs.length + 10 ≤ 140737488355328) :
    Calls Tryd.prog 31 #[v, .int .u64 n] w fun e w' => ∃ v', e = .returned v' ∧ Own w' 5 v' ((bs ++ leB n 8).map bv) ∧ Turn (fun k => v.ownBlock = some k) w w' ∧ Near w v v' := by
  have HH := shut h
  obtain ⟨a, l, c, rfl⟩ := h.form
  obtain ⟨v0, hv0⟩ : ∃ v0, Hid (Value.slice a l c = v0) := ⟨_, rfl⟩
  rw [show Value.slice a l c = v0 from hv0.out] at HH
  have hv1 : Hid (v0 = Value.slice a l c) := hv0.out.symm
  have hpost : ∀ e w', (∃ v', e = Ending.returned v' ∧ Own w' 5 v' ((bs ++ leB n 8).map bv) ∧ Turn (fun k => v0.ownBlock = some k) w w' ∧ Near w v0 v') → (∃ v', e = Ending.returned v' ∧ Own w' 5 v' ((bs ++ leB n 8).map bv) ∧ Turn (fun k => Value.ownBlock (.slice a l c) = some k) w w' ∧ Near w (.slice a l c) v') := fun e w' q => by rw [hv0.out]; exact q
  have HP := shut hpost
  clear h hpost
  refine Calls.mono ?_ HP.out
  clear HP
  go_enter Tryd.func31, Tryd.ntmps31
  go_wp2_with fail
  go_loopw [0, 5] (fun vb x wr => ∃ k : Nat, k ≤ 8 ∧ x = .int .i64 k ∧ Shut (Own wr 5 vb ((bs ++ leB n k).map bv) ∧ Turn (fun k => v0.ownBlock = some k) w wr ∧ Near w v0 vb)) (fun _ x _ => 8 - (intOf x).toNat)
  case atStart => exact ⟨0, by omega, rfl, by rw [hv0.out]; simpa [leB] using HH.out, Turn.refl _ _, by rw [hv0.out]; exact Or.inl rfl⟩
  case round =>
    obtain ⟨k, hk, rfl, HK⟩ := hrel
    obtain ⟨ab, lb, cb, rfl⟩ := HK.out.1.form
    by_cases hlt : k < 8
    · have hlt' : (k : Int) < 8 := by omega
      have hw1 := wrap8 k (by omega)
      have hsb : (n : Int) / 2 ^ (8 * k) % 256 = ((UInt8.ofNat (n / 256 ^ k)).toNat : Int) := by
        have := shr_byte n k
        rw [IntKind.wrap_u8, show (8 * (k : Int)).toNat = 8 * k by omega] at this
        exact this
      obtain ⟨bb, hbb⟩ : ∃ bb : UInt8, Hid (bb = UInt8.ofNat (n / 256 ^ k)) := ⟨_, rfl⟩
      rw [show UInt8.ofNat (n / 256 ^ k) = bb from hbb.out.symm] at hsb
      have ta := (Turn.refl no wr).alloc (.cells #[.int .u8 (bb.toNat : Int)] 5)
      have S1 : Src Tryd.prog 1 43 (.slice (some ⟨wr.heap.size, 0, none⟩) 1 1) 1 (List.map bv [bb]) (wr.alloc (.cells #[.int .u8 (bb.toNat : Int)] 5)) := src_byte Tryd.underlying43 wr _ bb rfl
      have Oa := HK.out.1.turn_no ta
      have q1 : ((bs ++ leB n k).map bv).length + 1 ≤ 140737488355328 := by simp [leB_length]; omega
      have q2 : (((bs ++ leB n k).map bv).length + 1) * 1 ≤ 140737488355328 := by omega
      have q3 : ((bs ++ leB n k).map bv).length + 1 ≤ maxLen := by simp only [maxLen]; omega
      have HS := shut S1
      have HO := shut Oa
      have Q2 := shut q2
      have Q3 := shut q3
      have HTA := shut ta
      clear S1 Oa q1 q2 q3 ta
      go_wp2_with (at_builtin; refine wpList_append_src rfl (.tmp 10) (.tmp 17) rfl Tryd.underlying43 Tryd.info5 rfl (.slice ab lb cb) _ rfl HO.out _ 1 (List.map bv [bb]) rfl HS.out Q2.out Q3.out ?_; intro v1 w1 O1 G1 _; obtain ⟨a1, l1, c1, rfl⟩ := O1.form)
      have HN : Shut (Own w1 5 (.slice a1 l1 c1) ((bs ++ leB n (k + 1)).map bv) ∧ Turn (fun k => v0.ownBlock = some k) w w1 ∧ Near w v0 (.slice a1 l1 c1)) := by
        refine ⟨?_, ?_, ?_⟩
        · rw [leB_succ, ← List.append_assoc, List.map_append, ← hbb.out]
          exact O1
        · have hs := HTA.out.size
          have hw := HK.out.2.1.size
          refine (HK.out.2.1.then_no HTA.out).trans G1.turn (fun i hi q => ?_)
          rcases HK.out.2.2 with e | ⟨g, e, hg⟩
          · rw [← e]; exact q
          · rw [e] at q; cases q; omega
        · exact HK.out.2.2.grew G1 (by have := HTA.out.size; have := HK.out.2.1.size; omega)
      clear O1 G1 HO HS
      go_roundw
      case rel => exact ⟨k + 1, by omega, by go_num, HN⟩
      case measure => simp [intOf]; omega
    · have hlt' : ¬ (k : Int) < 8 := by omega
      have HE : Shut (Own wr 5 (.slice ab lb cb) ((bs ++ leB n 8).map bv) ∧ Turn (fun k => v0.ownBlock = some k) w wr ∧ Near w v0 (.slice ab lb cb)) := by
        have : k = 8 := by omega
        subst this
        exact HK
      go_wp2_with fail
      go_ret
      refine ⟨.slice ab lb cb, rfl, ?_, HE.out.2⟩
      rw [← List.map_append]
      exact HE.out.1
/-- A row of items in new memory; up to a place they are what is digested of members. -/
structure Il (B : Nat) (w : World) (vi : Value) (us : List Value) (l : List Mb) : Prop where
  own : Own w 43 vi us
  bf : ∀ g, vi.ownBlock = some g → B ≤ g
  tx : ∀ (j : Nat) (m : Mb), l[j]? = some m → ∃ u, us[j]? = some u ∧ Own w 5 u ((itB m).map bv) ∧ ∀ g, u.ownBlock = some g → B ≤ g
theorem own_ne {w : World} {e e' : TypeId} {v v' : Value} {xs xs' : List Value} (h : Own w e v xs) (h' : Own w e' v' xs') (he : e ≠ e') : ∀ g, v.ownBlock = some g → ¬ (v'.ownBlock = some g) := by
  intro g hg hg'
  rcases h.shape with ⟨rfl, _⟩ | ⟨g1, c1, u1, rfl, o1, _⟩
  · cases hg
  rcases h'.shape with ⟨rfl, _⟩ | ⟨g2, c2, u2, rfl, o2, _⟩
  · cases hg'
  have q1 : g1 = g := by simpa [Value.ownBlock] using hg
  have q2 : g2 = g := by simpa [Value.ownBlock] using hg'
  subst q1
  subst q2
  rw [o1] at o2
  cases o2
  exact he rfl
theorem Il.turn_no {B : Nat} {w w' : World} {vi : Value} {us : List Value} {l : List Mb} (h : Il B w vi us l) (t : Turn no w w') : Il B w' vi us l :=
  ⟨h.own.turn_no t, h.bf, fun j m q => by
    obtain ⟨u, h1, h2, h3⟩ := h.tx j m q
    exact ⟨u, h1, h2.turn_no t, h3⟩⟩
theorem at_last {α : Type} {l : List α} {x : α} {j : Nat} {y : α} (h : (l ++ [x])[j]? = some y) : (j < l.length ∧ l[j]? = some y) ∨ (j = l.length ∧ y = x) := by
  by_cases hj : j < l.length
  · rw [List.getElem?_append_left hj] at h
    exact .inl ⟨hj, h⟩
  · have hj2 := (List.getElem?_eq_some_iff.1 h).1
    simp at hj2
    have e : j = l.length := by omega
    subst e
    simp at h
    exact .inr ⟨rfl, h.symm⟩
/-- One more, appended. -/
theorem Il.push {B : Nat} {w w' : World} {vi vi' u : Value} {us : List Value} {l : List Mb} {m : Mb} (h : Il B w vi us l) (hl : us.length = l.length) (hB : B ≤ w.heap.size) (Ou : Own w 5 u ((itB m).map bv)) (fu : ∀ g, u.ownBlock = some g → B ≤ g) (O : Own w' 43 vi' (us ++ [u])) (G : Grew w w' vi vi') : Il B w' vi' (us ++ [u]) (l ++ [m]) :=
  ⟨O, G.fresh h.bf hB, fun j x q => by
    rcases at_last q with ⟨hj, q⟩ | ⟨rfl, rfl⟩
    · obtain ⟨u', h1, h2, h3⟩ := h.tx j x q
      exact ⟨u', by rw [List.getElem?_append_left (by omega)]; exact h1, h2.turn G.turn (fun g hg q' => own_ne h.own h2 (by decide) g q' hg), h3⟩
    · exact ⟨u, by rw [← hl]; simp, Ou.turn G.turn (fun g hg q' => own_ne h.own Ou (by decide) g q' hg), fu⟩⟩
/-- One more, stored at its place. -/
theorem Il.put {B : Nat} {w w' : World} {vi u : Value} {us : List Value} {l : List Mb} {m : Mb} {g : Nat} (h : Il B w vi us l) (hl : l.length < us.length) (hg : vi.ownBlock = some g) (Ou : Own w 5 u ((itB m).map bv)) (fu : ∀ g, u.ownBlock = some g → B ≤ g) (O : Own w' 43 vi (us.set l.length u)) (t : Turn (fun k => k = g) w w') : Il B w' vi (us.set l.length u) (l ++ [m]) :=
  ⟨O, h.bf, fun j x q => by
    rcases at_last q with ⟨hj, q⟩ | ⟨rfl, rfl⟩
    · obtain ⟨u', h1, h2, h3⟩ := h.tx j x q
      exact ⟨u', by rw [List.getElem?_set_ne (by omega)]; exact h1, h2.turn t (fun g' hg' q' => own_ne h.own h2 (by decide) g' (by rw [q', hg]) hg'), h3⟩
    · exact ⟨u, by simp [hl], Ou.turn t (fun g' hg' q' => own_ne h.own Ou (by decide) g' (by rw [q', hg]) hg'), fu⟩⟩
/-- The row as a list of items. -/
theorem Il.bl {B : Nat} {w : World} {vi : Value} {us : List Value} {l : List Mb} (h : Il B w vi us l) (hl : us.length = l.length) (hn : l.length ≤ 64) : ∃ (a : Option Addr) (cap : Nat) (its : Its), vi = .slice a its.length cap ∧ BlAt w a cap its ∧ txs its = l.map itB := by
  have hz : (us.zip (l.map itB)).length = l.length := by rw [List.length_zip, List.length_map, hl]; omega
  have ht : txs (us.zip (l.map itB)) = l.map itB := by unfold txs; exact List.map_snd_zip (by rw [List.length_map, hl]; omega)
  rcases h.own.shape with ⟨hv, hu⟩ | ⟨g, cap, cur, hv, _, h1, h2, _⟩
  · refine ⟨none, 0, us.zip (l.map itB), by rw [hv, hz, ← hl, hu]; rfl, ⟨by rw [hz, ← hl, hu]; simp, by simp [maxLen], by rw [hz]; omega, .inl ?_⟩, ht⟩
    rw [hu]; simp
  · refine ⟨some ⟨g, 0, none⟩, cap, us.zip (l.map itB), by rw [hv, hz, hl], ⟨by rw [hz, ← hl]; exact h1, h2, by rw [hz]; omega, .inr ⟨g, 0, rfl, fun j x hx => ?_⟩⟩, ht⟩
    have hj : j < l.length := by have := (List.getElem?_eq_some_iff.1 hx).1; omega
    obtain ⟨u, f1, f2, _⟩ := h.tx j l[j] (List.getElem?_eq_getElem hj)
    have hx2 : x = (u, itB l[j]) := by
      rw [List.getElem?_zip_eq_some] at hx
      obtain ⟨q1, q2⟩ := hx
      rw [f1] at q1
      rw [List.getElem?_map, List.getElem?_eq_getElem hj] at q2
      simp at q1 q2
      exact Prod.ext q1.symm q2.symm
    subst hx2
    refine ⟨?_, f2.bs⟩
    have hO := h.own
    rw [hv] at hO
    have := hO.cell j _ f1
    simpa using this
end Go.Proofs.YtgjhhmdpepdepaaDoor
