/- The walk of LedgerProves. -/
import Derived.Test.YtmihgjdodgmipaaGreatDoorQ3
import Derived.Test.YtmihgjdodgmipaaGreatDoorP11
import Derived.Test.YtmihgjdodgmipaaGreatDoorP12
import Derived.Test.YtmihgjdodgmipaaGreatDoorGc
import Derived.Test.YtmihgjdodgmipaaGreatDoorGb
namespace Go.Proofs.YtmihgjdodgmipaaGreatDoor
open Go.RowKit
set_option linter.unusedVariables false

/-- What Prove tells. -/
def Pw (l : List Ac) (x : Nat) (E : Int) (R : List UInt8) (W : World) (WA : Array Value) : Prop := ∃ (RR : List UInt8) (L : List Ac) (Q : List Pf) (v1 v2 : Value), RR.length = 32 ∧ WA = (wtL RR v1 v2).toArray ∧ As W v1 L ∧ Qs W v2 Q ∧ ((E ≠ 0 ∧ RR = z32 ∧ L = [] ∧ Q = []) ∨ (E = 0 ∧ RR = R ∧ ∃ c, c ≤ l.length ∧ Parts l x c c ∧ L = (shN l x c).map (fun k => l.getD k ac0) ∧ Q = (shN l x c).map (pfOf l)))
theorem as_nil (W : World) : As W (.slice none 0 0) [] := ⟨none, 0, rfl, by simp, by simp [maxLen], (fun m hm => by cases hm), fun j m hj => by simp at hj⟩
theorem qs_nil (W : World) : Qs W (.slice none 0 0) [] := ⟨none, 0, rfl, by simp, by simp [maxLen], fun j m hj => by simp at hj⟩
theorem Qs.turn {w w' : World} {v : Value} {l : List Pf} (h : Qs w v l) (t : Turn no w w') : Qs w' v l := by
  obtain ⟨p, c, e, k⟩ := h
  exact ⟨p, c, e, k.turn_no t⟩
theorem Pw.turn {l : List Ac} {x : Nat} {E : Int} {R : List UInt8} {W W' : World} {WA : Array Value} (h : Pw l x E R W WA) (t : Turn no W W') : Pw l x E R W' WA := by
  obtain ⟨RR, L, Q, v1, v2, h1, h2, h3, h4, h5⟩ := h
  exact ⟨RR, L, Q, v1, v2, h1, h2, h3.turn_no t, h4.turn t, h5⟩
theorem Pw.size {l : List Ac} {x : Nat} {E : Int} {R : List UInt8} {W : World} {WA : Array Value} (h : Pw l x E R W WA) : WA.size = 34 ∧ WA.all (·.oneCell') = true ∧ (Tryz.prog.info? 37).map (·.size) = some WA.size := by
  obtain ⟨RR, L, Q, v1, v2, h1, rfl, h3, h4, h5⟩ := h
  obtain ⟨a, c, rfl, _⟩ := h3
  obtain ⟨a', c', rfl, _⟩ := h4
  have q := wt_wt RR h1
  exact ⟨q.size _ _, q.one _ _ _ _ _ _, q.info _ _⟩
theorem Pw.bad {l : List Ac} {x : Nat} {E : Int} (R : List UInt8) (W : World) (he : E ≠ 0) : Pw l x E R W WZ := ⟨z32, [], [], .slice none 0 0, .slice none 0 0, z32_len, rfl, as_nil W, qs_nil W, .inl ⟨he, rfl, rfl, rfl⟩⟩
/-- Two that Prove tells are the same. -/
theorem Pw.two {l : List Ac} {x : Nat} {E : Int} {R : List UInt8} {W : World} {WA WB : Array Value} (h : Pw l x E R W WA) (h' : Pw l x E R W WB) : Calls Tryz.prog 11 #[.agg WA, .agg WB] W fun e w' => e = .returned (.bool true) ∧ Turn no W w' := by
  obtain ⟨RR, L, Q, v1, v2, h1, rfl, h3, h4, h5⟩ := h
  obtain ⟨RR', L', Q', v1', v2', h1', rfl, h3', h4', h5'⟩ := h'
  have e : RR = RR' ∧ L = L' ∧ Q = Q' := by
    rcases h5 with ⟨p0, p1, p2, p3⟩ | ⟨p0, p1, c, p2, p3, p4, p5⟩
    · rcases h5' with ⟨q0, q1, q2, q3⟩ | ⟨q0, _⟩
      · exact ⟨by rw [p1, q1], by rw [p2, q2], by rw [p3, q3]⟩
      · exact absurd q0 p0
    · rcases h5' with ⟨q0, _⟩ | ⟨q0, q1, d, q2, q3, q4, q5⟩
      · exact absurd p0 q0
      · have := parts_one p3 q3 p2 q2
        subst this
        exact ⟨by rw [p1, q1], by rw [p4, q4], by rw [p5, q5]⟩
  obtain ⟨rfl, rfl, rfl⟩ := e
  exact sameW11 W RR h1 v1 v1' v2 v2' L Q h3 h3' h4 h4'
/-- What Find and Verify tell of it. -/
def VP (l : List Ac) (x : Nat) (m : Ac) (f : Bool) : Prop := ∃ c, c ≤ l.length ∧ Parts l x c c ∧ m = (if hasB l x = true then l.getD c ac0 else ac0) ∧ f = hasB l x
theorem VP.find {l : List Ac} {x : Nat} {m m' : Ac} {f : Bool} {k : Int} (hA : Asc l) (hpos : ∀ m ∈ l, 0 < m.ad) (h : VP l x m f) (h' : FindP l x m' k) : m' = m ∧ ((f = true ∧ k = 0) ∨ (f = false ∧ k = 85)) := by
  obtain ⟨c, h1, h2, rfl, rfl⟩ := h
  rcases h' with ⟨rfl, rfl, q⟩ | ⟨rfl, q0, j, hj, rfl, hf⟩
  · have hb : hasB l x = false := by
      rcases q with rfl | q
      · exact not_has (fun m hm e => by have := hpos m hm; omega)
      · exact not_has q
    rw [hb]
    exact ⟨rfl, .inr ⟨rfl, rfl⟩⟩
  · obtain ⟨p1, p2⟩ := parts_at hA hj rfl
    have := parts_one h2 p1 h1 (by have := (List.getElem?_eq_some_iff.1 hj).1; omega)
    subst this
    rw [p2]
    exact ⟨by rw [if_pos rfl, getD_at hj], .inl ⟨rfl, rfl⟩⟩

set_option maxRecDepth 100000 in
set_option maxHeartbeats 80000000 in
theorem proves3 (w : World) (l0 : Laid0 w) (l1 : Laid1 w) (h2 : 2 ≤ w.heap.size) (va vr : Value) (l : List Ac) (r : List Rl) (ha : As w va l) (hr : Rs w vr r) (hla : l.length * 40 ≤ 140737488351232) (hlr : r.length * 32 ≤ 140737488351232) (b s x : Nat) (hb : b < 18446744073709551616) (hs : s < 18446744073709551616) :
    Calls Tryz.prog 3 #[.agg (ldA va vr b s), .int .u64 x] w fun e w' => e = .returned (.bool true) ∧ Turn no w w' := by
  obtain ⟨w0, hw0⟩ : ∃ w0, w.alloc (.cells (ldA va vr b s) 26) = w0 := ⟨_, rfl⟩
  have T0 : Turn no w w0 := by rw [← hw0]; exact (Turn.refl no w).alloc _
  have B0 : Row w0 w.heap.size (ldA va vr b s) 26 := by rw [← hw0]; exact Row.new w _ 26
  have hal := alive5 w0
  have HRM : Shut (∀ W, Turn no w0 W → Calls Tryz.prog 5 #[.agg (ldA va vr b s)] W fun e w' => ∃ ga ac gr rc, e = .returned (.agg (ldA (.slice (some ⟨ga, 0, none⟩) (l.length + 2) ac) (.slice (some ⟨gr, 0, none⟩) (r.length + 2) rc) b s)) ∧ Roomy w' ga ac gr rc l r ∧ Turn no W w') := fun W t => roomy10 W va vr l r (ha.turn_no (T0.then_no t)) (hr.turn_no (T0.then_no t)) hla hlr b s
  generalize hE : ledE b l r s = E at *
  have HCUT : Shut (∀ W ga ac gr rc, Roomy W ga ac gr rc l r → Calls Tryz.prog 7 #[.agg (ldA (.slice (some ⟨ga, 0, none⟩) (l.length + 2) ac) (.slice (some ⟨gr, 0, none⟩) (r.length + 2) rc) b s)] W fun e w' => e = .returned (.agg (ldA (.slice (some ⟨ga, 0, none⟩) l.length ac) (.slice (some ⟨gr, 0, none⟩) r.length rc) b s)) ∧ Turn no W w') := fun W ga ac gr rc h => by
    have h := h.room
    exact cut12 W _ _ _ _ _ _ h.1 h.2.1 h.2.2.1 h.2.2.2 b s
  have HL : ∀ W, Turn no w0 W → Laid0 W ∧ Laid1 W ∧ 2 ≤ W.heap.size := fun W t => ⟨l0.turn (T0.then_no t) (fun q => q), l1.turn (T0.then_no t) (fun q => q), by have := (T0.then_no t).size; omega⟩
  have HRT : Shut (∀ W v u, Turn no w0 W → As W v l → Rs W u r → Calls Tryz.prog 6 #[.agg (ldA v u b s)] W fun e w' => e = .returned (.tuple #[.agg (hb32 (lrH b s l r)), .int .i64 E]) ∧ Turn no W w') := fun W v u t A R => by
    have := root6 W (HL W t).2.1 (HL W t).2.2 v u l r A R b s hb hs
    rwa [hE] at this
  have HRR : Shut (∀ W, Turn no w0 W → Calls Tryz.prog 9 #[.agg (ldA va vr b s)] W fun e w' => e = .returned (.tuple #[.agg (hb32 (lrH b s l r)), .int .i64 E]) ∧ Turn no W w') := fun W t => by
    have := rroot9 W (HL W t).1 (HL W t).2.2 va vr l r (ha.turn_no (T0.then_no t)) (hr.turn_no (T0.then_no t)) b s hb hs
    rwa [hE] at this
  have HPV : Shut (∀ W v u, Turn no w0 W → As W v l → Rs W u r → Calls Tryz.prog 8 #[.agg (ldA v u b s), .int .u64 x] W fun e w' => ∃ WA, e = .returned (.tuple #[.agg WA, .int .i64 E]) ∧ Pw l x E (hashOf (restB b s r)) w' WA ∧ Turn no W w') := fun W v u t A R => by
    by_cases he : E = 0
    · refine (prove8_ok W (HL W t).2.1 (HL W t).2.2 v u l r A R b s hb hs x (by rw [hE]; exact he) (led_asc (hE.trans he)).1).mono ?_
      rintro e w' ⟨c, v1, v2, rfl, q1, q2, q3, q4, q5⟩
      exact ⟨_, by rw [he], ⟨_, _, _, v1, v2, hashOf_len _, rfl, q3, q4, .inr ⟨he, rfl, c, q1, q2, rfl, rfl⟩⟩, q5⟩
    · refine (prove8_bad W v u l r A R b s x (by rw [hE]; exact he)).mono ?_
      rintro e w' ⟨rfl, q⟩
      exact ⟨WZ, by rw [hE], Pw.bad _ _ he, q⟩
  have HRP : Shut (∀ W, Turn no w0 W → Calls Tryz.prog 10 #[.agg (ldA va vr b s), .int .u64 x] W fun e w' => ∃ WA, e = .returned (.tuple #[.agg WA, .int .i64 E]) ∧ Pw l x E (hashOf (restB b s r)) w' WA ∧ Turn no W w') := fun W t => by
    have A := ha.turn_no (T0.then_no t)
    have R := hr.turn_no (T0.then_no t)
    by_cases he : E = 0
    · refine (rprove10_ok W (HL W t).1 (HL W t).2.2 va vr l r A R b s hb hs x (by rw [hE]; exact he)).mono ?_
      rintro e w' ⟨c, v1, v2, rfl, q1, q2, q3, q4, q5⟩
      exact ⟨_, by rw [he], ⟨_, _, _, v1, v2, hashOf_len _, rfl, q3, q4, .inr ⟨he, rfl, c, q1, q2, rfl, rfl⟩⟩, q5⟩
    · refine (rprove10_bad W va vr l r A R b s x (by rw [hE]; exact he)).mono ?_
      rintro e w' ⟨rfl, q⟩
      exact ⟨WZ, by rw [hE], Pw.bad _ _ he, q⟩
  have HKP : Shut (∀ W ga ac gr rc, Turn no w0 W → Roomy W ga ac gr rc l r → Calls Tryz.prog 12 #[.agg (ldA (.slice (some ⟨ga, 0, none⟩) (l.length + 2) ac) (.slice (some ⟨gr, 0, none⟩) (r.length + 2) rc) b s), .agg (ldA va vr b s)] W fun e w' => e = .returned (.bool true) ∧ Turn no W w') := fun W ga ac gr rc t h => kept17 W ga ac gr rc va vr l r h (ha.turn_no (T0.then_no t)) (hr.turn_no (T0.then_no t)) b s
  have HVR : Shut (E = 0 → ∀ W WA, Turn no w0 W → Pw l x E (hashOf (restB b s r)) W WA → Calls Tryz.prog 13 #[.agg (hb32 (lrH b s l r)), .int .u64 x, .agg WA] W fun e w' => ∃ m f, e = .returned (.tuple #[.agg (acs m).toArray, .bool f, .int .i64 0]) ∧ VP l x m f ∧ Turn no W w') := fun he W WA t h => by
    obtain ⟨RR, L, Q, v1, v2, h1, rfl, h3, h4, h5⟩ := h
    rcases h5 with ⟨q, _⟩ | ⟨_, rfl, c, h6, h7, rfl, rfl⟩
    · exact absurd he q
    · have hl65 := (led_small (hE.trans he)).1
      have := ver5 W (HL W t).2.1 (HL W t).2.2 (lrH b s l r) (hashOf (restB b s r)) (by rw [show lrH b s l r = inH (acR l) (hashOf (restB b s r)) from if_pos (hE.trans he)]; exact hashOf_len _) (hashOf_len _) x v1 v2 _ _ h3 h4
      rw [show lrH b s l r = inH (acR l) (hashOf (restB b s r)) from if_pos (hE.trans he), shown_ver (hashOf (restB b s r)) hl65 (led_asc (hE.trans he)).1 h7 h6] at this
      rw [show lrH b s l r = inH (acR l) (hashOf (restB b s r)) from if_pos (hE.trans he)]
      exact this.mono fun e w' q => ⟨_, _, q.1, ⟨c, h6, h7, rfl, rfl⟩, q.2⟩
  have HFD : Shut (E = 0 → ∀ W m f, Turn no w0 W → VP l x m f → Calls Tryz.prog 14 #[.agg (ldA va vr b s), .int .u64 x] W fun e w' => ∃ k, e = .returned (.tuple #[.agg (acs m).toArray, .int .i64 k]) ∧ ((f = true ∧ k = 0) ∨ (f = false ∧ k = 85)) ∧ Turn no W w') := fun he W m f t h => by
    obtain ⟨ra, rn, er, _⟩ := id hr
    refine (find15 W va vr l (ha.turn_no (T0.then_no t)) ⟨_, _, _, er⟩ b s x).mono ?_
    rintro e w' ⟨m', k, rfl, hf, q⟩
    obtain ⟨rfl, h3⟩ := h.find (led_asc (hE.trans he)).1 (led_asc (hE.trans he)).2 hf
    exact ⟨k, rfl, h3, q⟩
  have hX : (lrH b s l r).length = 32 := by
    unfold lrH
    split
    · exact hashOf_len _
    · rfl
  have iX := hb32_info hX
  have sX := hb32_size hX
  have oX := hb32_one (lrH b s l r)
  have eX : ∀ W, (Op.equalIn 10000 31 (.agg (hb32 (lrH b s l r))) (.agg (hb32 (lrH b s l r)))).run Tryz.prog W = .ok true W := fun W => by
    have := eqIn35 W _ _ hX hX
    rw [show (lrH b s l r == lrH b s l r) = true by simp] at this
    exact this
  have rXl : Shut (hb32 (lrH b s l r) = ((lrH b s l r).map bv).toArray) := rfl
  have zX := hb32_size z32_len
  have zv31 := zero35v
  have zv37 := zero37
  have iL := ld_info va vr b s
  have sZ : WZ.size = 34 := by kernel_rfl
  have HT0 := shut T0
  clear HL ha hr hla hlr hb hs l0 l1 h2 hX T0
  have HEE := shut hE
  clear hE
  generalize hb32 (lrH b s l r) = XA at *
  generalize hb32 z32 = ZX at *
  generalize WZ = Z at *
  generalize hLA : ldA va vr b s = LA at *
  generalize hashOf (restB b s r) = RR at *
  go_enter Tryz.func3, Tryz.ntmps3
  go_upto_region 1 with fail
  try rw [hw0]
  clear hw0
  go_upto_region 4 with (go_at_call 4; refine hal.mono ?_; clear hal; rintro e w1 ⟨rfl, t1⟩)
  have B1 := B0.turn t1 (fun q => q)
  have hro := HRM.out w1 t1
  have hLF : Shut (∀ ga ac gr rc, (ldA (.slice (some ⟨ga, 0, none⟩) (l.length + 2) ac) (.slice (some ⟨gr, 0, none⟩) (r.length + 2) rc) b s).all (·.oneCell') = true) := fun ga ac gr rc => by simp [ldA, Value.oneCell']
  go_upto_region 5 with (first | (guard_target =~ wpList _ _ _ ({ dst := some 22, .. } :: _) _ _; refine wpList_load_row rfl 26 (.tmp 2) rfl w.heap.size rfl 26 LA _ _ B1 Tryz.underlying26 rfl iL ?_) | (go_at_call 5; refine hro.mono ?_; clear hro; rintro e w2 ⟨ga, ac, gr, rc, rfl, hRo, t2⟩) | (guard_target =~ wpList _ _ _ ({ dst := _, op := Op.store 26 _ _, .. } :: _) _ _; refine wpList_store_anyN rfl rfl 26 (.tmp 6) (.tmp 23) rfl w2.heap.size (ldA (.slice (some ⟨ga, 0, none⟩) (l.length + 2) ac) (.slice (some ⟨gr, 0, none⟩) (r.length + 2) rc) b s) rfl rfl 26 #[.slice none 0 0, .slice none 0 0, .int .u64 0, .int .u64 0] (Row.new w2 _ 26) (ld_info _ _ _ _) rfl (hLF.out _ _ _ _) ?_; intro w3 R3 t3))
  have T23 : Turn no w2 w3 := ((((Turn.refl no w2).alloc _).of_no.trans t3 (fun _ _ e => e) : Turn (fun q => q = w2.heap.size) w2 w3).mono (fun i hi e => by
    have e' : i = w2.heap.size := e
    omega))
  have T03 : Turn no w0 w3 := (t1.then_no t2).then_no T23
  have B3 := B1.turn (t2.then_no T23) (fun q => q)
  have HRo : Shut (∀ W, Turn no w3 W → Roomy W ga ac gr rc l r) := fun W t => hRo.turn_no (T23.then_no t)
  have HAs : Shut (∀ W, Turn no w3 W → As W (.slice (some ⟨ga, 0, none⟩) l.length ac) l ∧ Rs W (.slice (some ⟨gr, 0, none⟩) r.length rc) r) := fun W t => ⟨As.of_at (HRo.out W t).acs, Rs.of_at (HRo.out W t).rls⟩
  have HC2 : Shut (∀ W, Turn no w3 W → Calls Tryz.prog 7 #[.agg (ldA (.slice (some ⟨ga, 0, none⟩) (l.length + 2) ac) (.slice (some ⟨gr, 0, none⟩) (r.length + 2) rc) b s)] W fun e w' => e = .returned (.agg (ldA (.slice (some ⟨ga, 0, none⟩) l.length ac) (.slice (some ⟨gr, 0, none⟩) r.length rc) b s)) ∧ Turn no W w') := fun W t => HCUT.out W ga ac gr rc (HRo.out W t)
  have HR2 : Shut (∀ W, Turn no w3 W → Calls Tryz.prog 6 #[.agg (ldA (.slice (some ⟨ga, 0, none⟩) l.length ac) (.slice (some ⟨gr, 0, none⟩) r.length rc) b s)] W fun e w' => e = .returned (.tuple #[.agg XA, .int .i64 E]) ∧ Turn no W w') := fun W t => HRT.out W _ _ (T03.then_no t) (HAs.out W t).1 (HAs.out W t).2
  have HP2 : Shut (∀ W, Turn no w3 W → Calls Tryz.prog 8 #[.agg (ldA (.slice (some ⟨ga, 0, none⟩) l.length ac) (.slice (some ⟨gr, 0, none⟩) r.length rc) b s), .int .u64 x] W fun e w' => ∃ WA, e = .returned (.tuple #[.agg WA, .int .i64 E]) ∧ Pw l x E RR w' WA ∧ Turn no W w') := fun W t => HPV.out W _ _ (T03.then_no t) (HAs.out W t).1 (HAs.out W t).2
  have HK2 : Shut (∀ W, Turn no w3 W → Calls Tryz.prog 12 #[.agg (ldA (.slice (some ⟨ga, 0, none⟩) (l.length + 2) ac) (.slice (some ⟨gr, 0, none⟩) (r.length + 2) rc) b s), .agg LA] W fun e w' => e = .returned (.bool true) ∧ Turn no W w') := fun W t => HKP.out W ga ac gr rc (T03.then_no t) (HRo.out W t)
  have HT03 := shut T03
  have iF := ld_info (.slice (some ⟨ga, 0, none⟩) (l.length + 2) ac) (.slice (some ⟨gr, 0, none⟩) (r.length + 2) rc) b s
  clear HRo HAs HCUT HRT HPV HKP HRM hRo T23 t3 t2 t1 B1 B0 hLF T03
  generalize w2.heap.size = g6 at *
  generalize ldA (.slice (some ⟨ga, 0, none⟩) (l.length + 2) ac) (.slice (some ⟨gr, 0, none⟩) (r.length + 2) rc) b s = LF at *
  generalize ldA (.slice (some ⟨ga, 0, none⟩) l.length ac) (.slice (some ⟨gr, 0, none⟩) r.length rc) b s = LC at *
  have hc := HC2.out w3 (Turn.refl no w3)
  go_upto_region 6 with (first | (guard_target =~ wpList _ _ _ ({ dst := some 25, .. } :: _) _ _; refine wpList_load_row rfl 26 (.tmp 6) rfl g6 rfl 26 LF _ _ R3 Tryz.underlying26 rfl iF ?_) | (go_at_call 7; refine hc.mono ?_; clear hc; rintro e w4 ⟨rfl, t4⟩; have hc := HR2.out w4 t4) | (go_at_call 6; refine hc.mono ?_; clear hc; rintro e w5 ⟨rfl, t5⟩) | (guard_target =~ wpList _ _ _ ({ dst := _, op := Op.store 31 _ _, .. } :: _) _ _; refine wpList_store_anyN rfl rfl 31 (.tmp 7) (.tmp 28) rfl w5.heap.size XA rfl rfl 31 ZX (Row.new w5 ZX 31) iX (by rw [zX, sX]) oX ?_; intro w6 R6 t6))
  have T36 : Turn no w3 w6 := (t4.then_no t5).trans ((((Turn.refl no w5).alloc _).of_no.trans t6 (fun _ _ e => e) : Turn (fun q => q = w5.heap.size) w5 w6).mono (fun i hi e => by
    have e' : i = w5.heap.size := e
    omega) : Turn no w5 w6) (fun _ _ q => q)
  have B6 := B3.turn T36 (fun q => q)
  have R36 := R3.turn T36 (fun q => q)
  generalize w5.heap.size = g7 at *
  clear t4 t5 t6 B3 R3 HR2
  have hc := HC2.out w6 T36
  go_upto_region 7 with (first | (guard_target =~ wpList _ _ _ ({ dst := some 31, .. } :: _) _ _; refine wpList_load_row rfl 26 (.tmp 6) rfl g6 rfl 26 LF _ _ R36 Tryz.underlying26 rfl iF ?_) | (go_at_call 7; refine hc.mono ?_; clear hc; rintro e w7 ⟨rfl, t7⟩; have hc := HP2.out w7 (T36.then_no t7)) | (go_at_call 8; refine hc.mono ?_; clear hc; rintro e w8 ⟨WA, rfl, P8, t8⟩; obtain ⟨p1, p2, p3⟩ := P8.size) | (guard_target =~ wpList _ _ _ ({ dst := _, op := Op.store 37 _ _, .. } :: _) _ _; refine wpList_store_anyN rfl rfl 37 (.tmp 9) (.tmp 35) rfl w8.heap.size WA rfl rfl 37 Z (Row.new w8 Z 37) p3 (by rw [sZ, p1]) p2 ?_; intro w9 R9 t9))
  have T89 : Turn no w8 w9 := ((((Turn.refl no w8).alloc _).of_no.trans t9 (fun _ _ e => e) : Turn (fun q => q = w8.heap.size) w8 w9).mono (fun i hi e => by
    have e' : i = w8.heap.size := e
    omega))
  have T69 : Turn no w6 w9 := (t7.then_no t8).then_no T89
  have T39 := T36.then_no T69
  have B9 := B6.turn T69 (fun q => q)
  have R39 := R36.turn T69 (fun q => q)
  have R69 := R6.turn T69 (fun q => q)
  have P9 := P8.turn T89
  generalize w8.heap.size = g9 at *
  clear t7 t8 t9 B6 R36 R6 P8 T89 T69 HP2 HC2
  have hc := HRR.out w9 (HT03.out.then_no T39)
  go_upto_region 8 with (first | (guard_target =~ wpList _ _ _ ({ dst := some 38, .. } :: _) _ _; refine wpList_load_row rfl 26 (.tmp 2) rfl w.heap.size rfl 26 LA _ _ B9 Tryz.underlying26 rfl iL ?_) | (go_at_call 9; refine hc.mono ?_; clear hc; rintro e w10 ⟨rfl, t10⟩) | (guard_target =~ wpList _ _ _ ({ dst := _, op := Op.store 31 _ _, .. } :: _) _ _; refine wpList_store_anyN rfl rfl 31 (.tmp 11) (.tmp 40) rfl w10.heap.size XA rfl rfl 31 ZX (Row.new w10 ZX 31) iX (by rw [zX, sX]) oX ?_; intro w11 R11 t11))
  have TA : Turn no w9 w11 := t10.trans ((((Turn.refl no w10).alloc _).of_no.trans t11 (fun _ _ e => e) : Turn (fun q => q = w10.heap.size) w10 w11).mono (fun i hi e => by
    have e' : i = w10.heap.size := e
    omega) : Turn no w10 w11) (fun _ _ q => q)
  have T3b := T39.then_no TA
  have Bb := B9.turn TA (fun q => q)
  have R3b := R39.turn TA (fun q => q)
  have R6b := R69.turn TA (fun q => q)
  have R9b := R9.turn TA (fun q => q)
  have Pb := P9.turn TA
  generalize w10.heap.size = g11 at *
  clear t10 t11 B9 R39 R69 R9 P9 TA T39 HRR
  have hc := HRP.out w11 (HT03.out.then_no T3b)
  go_upto_region 9 with (first | (guard_target =~ wpList _ _ _ ({ dst := some 43, .. } :: _) _ _; refine wpList_load_row rfl 26 (.tmp 2) rfl w.heap.size rfl 26 LA _ _ Bb Tryz.underlying26 rfl iL ?_) | (go_at_call 10; refine hc.mono ?_; clear hc; rintro e w12 ⟨WB, rfl, P12, t12⟩; obtain ⟨q1, q2, q3⟩ := P12.size) | (guard_target =~ wpList _ _ _ ({ dst := _, op := Op.store 37 _ _, .. } :: _) _ _; refine wpList_store_anyN rfl rfl 37 (.tmp 13) (.tmp 46) rfl w12.heap.size WB rfl rfl 37 Z (Row.new w12 Z 37) q3 (by rw [sZ, q1]) q2 ?_; intro w13 R13 t13))
  have TC : Turn no w12 w13 := ((((Turn.refl no w12).alloc _).of_no.trans t13 (fun _ _ e => e) : Turn (fun q => q = w12.heap.size) w12 w13).mono (fun i hi e => by
    have e' : i = w12.heap.size := e
    omega))
  have TD := t12.then_no TC
  have T3d := T3b.then_no TD
  have Bd := Bb.turn TD (fun q => q)
  have R3d := R3b.turn TD (fun q => q)
  have R6d := R6b.turn TD (fun q => q)
  have R9d := R9b.turn TD (fun q => q)
  have R11d := R11.turn TD (fun q => q)
  have Pd := Pb.turn TD
  have P13 := P12.turn TC
  generalize w12.heap.size = g13 at *
  clear t12 t13 Bb R3b R6b R9b R11 Pb TD TC P12 T3b HRP
  have hE0 : (E != E) = false := by simp
  have hsw := Pd.two P13
  have HT3d := shut T3d
  have HROWS : Shut (∀ W, Turn no w13 W → Row W g6 LF 26 ∧ Row W g7 XA 31 ∧ Row W g9 WA 37 ∧ Row W w.heap.size LA 26 ∧ Pw l x E RR W WA) := fun W t => ⟨R3d.turn t (fun q => q), R6d.turn t (fun q => q), R9d.turn t (fun q => q), Bd.turn t (fun q => q), Pd.turn t⟩
  clear hLA
  obtain ⟨WAL, rfl⟩ : ∃ L : List Value, WA = L.toArray := ⟨WA.toList, (Array.toArray_toList).symm⟩
  obtain ⟨WBL, rfl⟩ : ∃ L : List Value, WB = L.toArray := ⟨WB.toList, (Array.toArray_toList).symm⟩
  obtain ⟨LFL, rfl⟩ : ∃ L : List Value, LF = L.toArray := ⟨LF.toList, (Array.toArray_toList).symm⟩
  obtain ⟨LAL, rfl⟩ : ∃ L : List Value, LA = L.toArray := ⟨LA.toList, (Array.toArray_toList).symm⟩
  have rWA := rowL R9d
  have rWB := rowL R13
  have iWA : (Tryz.prog.info? 37).map (·.size) = some WAL.length := by rw [← List.size_toArray]; exact p3
  have iWB : (Tryz.prog.info? 37).map (·.size) = some WBL.length := by rw [← List.size_toArray]; exact q3
  have iLF : (Tryz.prog.info? 26).map (·.size) = some LFL.length := by rw [← List.size_toArray]; exact iF
  have iLA : (Tryz.prog.info? 26).map (·.size) = some LAL.length := by rw [← List.size_toArray]; exact iL
  clear Bd R3d R9d R13 Pd P13 T3d p1 p2 q1 q2 q3 iF
  go_upto_region 11 with (first | (guard_target =~ wpList _ _ _ ({ dst := some 48, .. } :: _) _ _; refine wpList_load_row rfl 31 (.tmp 7) rfl g7 rfl 31 XA _ _ R6d Tryz.underlying31 rfl iX ?_) | (guard_target =~ wpList _ _ _ ({ dst := some 49, .. } :: _) _ _; refine wpList_load_row rfl 31 (.tmp 11) rfl g11 rfl 31 XA _ _ R11d Tryz.underlying31 rfl iX ?_) | (guard_target =~ wpList _ _ _ ({ dst := some 62, .. } :: _) _ _; refine wpList_load_midG (by kernel_rfl) 37 (.tmp 9) rfl g9 0 rfl WAL _ rWA Tryz.underlying37 rfl iWA ?_) | (guard_target =~ wpList _ _ _ ({ dst := some 63, .. } :: _) _ _; refine wpList_load_midG (by kernel_rfl) 37 (.tmp 13) rfl g13 0 rfl WBL _ rWB Tryz.underlying37 rfl iWB ?_) | (go_at_call 11; refine hsw.mono ?_; clear hsw; rintro e w14 ⟨rfl, t14⟩; have rf := rowL (HROWS.out w14 t14).1; have ra := rowL (HROWS.out w14 t14).2.2.2.1; have hk := HK2.out w14 (HT3d.out.then_no t14)) | (guard_target =~ wpList _ _ _ ({ dst := some 68, .. } :: _) _ _; refine wpList_load_midG (by kernel_rfl) 26 (.tmp 6) rfl g6 0 rfl LFL _ rf Tryz.underlying26 rfl iLF ?_) | (guard_target =~ wpList _ _ _ ({ dst := some 69, .. } :: _) _ _; refine wpList_load_midG (by kernel_rfl) 26 (.tmp 2) rfl w.heap.size 0 rfl LAL _ ra Tryz.underlying26 rfl iLA ?_) | (go_at_call 12; refine hk.mono ?_; clear hk; rintro e w15 ⟨rfl, t15⟩))
  have T135 := t14.then_no t15
  obtain ⟨-, S7, S9, SA, SP⟩ := HROWS.out w15 T135
  have HT0e := shut (HT03.out.then_no (HT3d.out.then_no T135))
  have HTe : Shut (Turn no w w15) := HT0.out.then_no HT0e.out
  clear rWA rWB rf ra t14 t15 HROWS HK2 HT3d HT03 R6d R11d T135 hE0 eX
  by_cases he : E = 0
  · subst he
    have hv := HVR.out (by trivial) w15 _ HT0e.out SP
    clear SP
    go_upto_region 14 with (first | (guard_target =~ wpList _ _ _ ({ dst := some 76, .. } :: _) _ _; refine wpList_load_row rfl 31 (.tmp 7) rfl g7 rfl 31 XA _ _ S7 Tryz.underlying31 rfl iX ?_) | (guard_target =~ wpList _ _ _ ({ dst := some 78, .. } :: _) _ _; refine wpList_load_row rfl 37 (.tmp 9) rfl g9 rfl 37 WAL.toArray _ _ S9 Tryz.underlying37 rfl p3 ?_) | (go_at_call 13; refine hv.mono ?_; clear hv; rintro e w16 ⟨m, f, rfl, hVP, t16⟩; have aI := acs_info m; have aO := acs_one m) | (guard_target =~ wpList _ _ _ ({ dst := _, op := Op.store 43 _ _, .. } :: _) _ _; refine wpList_store_anyN rfl rfl 43 (.tmp 15) (.tmp 80) rfl w16.heap.size (acs m).toArray rfl rfl 43 AZ (Row.new w16 AZ 43) aI rfl aO ?_; intro w17 R17 t17))
    have T67 : Turn no w16 w17 := ((((Turn.refl no w16).alloc _).of_no.trans t17 (fun _ _ e => e) : Turn (fun q => q = w16.heap.size) w16 w17).mono (fun i hi e => by
      have e' : i = w16.heap.size := e
      omega))
    have T57 := t16.then_no T67
    have SA7 := SA.turn T57 (fun q => q)
    have HT7 := shut (HT0e.out.then_no T57)
    have hf := HFD.out (by trivial) w17 m f HT7.out hVP
    generalize w16.heap.size = g15 at *
    clear S7 S9 SA t16 t17 T67 T57 hVP HVR HFD
    have hQ : ∀ W, (Op.equalIn 10000 43 (.agg (acs m).toArray) (.agg (acs m).toArray)).run Tryz.prog W = .ok true W := fun W => eq32v W m
    have sM : AZ.size = (acs m).toArray.size := rfl
    have iM : (Tryz.prog.info? 43).map (·.size) = some (acs m).length := by kernel_rfl
    generalize acs m = M at *
    go_upto_region 15 with (first | (guard_target =~ wpList _ _ _ ({ dst := some 84, .. } :: _) _ _; refine wpList_load_row rfl 26 (.tmp 2) rfl w.heap.size rfl 26 LAL.toArray _ _ SA7 Tryz.underlying26 rfl iL ?_) | (go_at_call 14; refine hf.mono ?_; clear hf; rintro e w18 ⟨kk, rfl, hkk, t18⟩) | (guard_target =~ wpList _ _ _ ({ dst := _, op := Op.store 43 _ _, .. } :: _) _ _; refine wpList_store_anyN rfl rfl 43 (.tmp 17) (.tmp 87) rfl w18.heap.size M.toArray rfl rfl 43 AZ (Row.new w18 AZ 43) aI sM aO ?_; intro w19 R19 t19))
    have T89 : Turn no w18 w19 := ((((Turn.refl no w18).alloc _).of_no.trans t19 (fun _ _ e => e) : Turn (fun q => q = w18.heap.size) w18 w19).mono (fun i hi e => by
      have e' : i = w18.heap.size := e
      omega))
    have T79 := t18.then_no T89
    have R179 := R17.turn T79 (fun q => q)
    have HTz := shut (HT0.out.then_no (HT7.out.then_no T79))
    generalize w18.heap.size = g17 at *
    have r15 := rowL R179
    have r17 := rowL R19
    clear R17 R179 R19 t18 t19 T89 T79 SA7 aI aO
    rcases hkk with ⟨rfl, rfl⟩ | ⟨rfl, rfl⟩
    · go_wp2_with (first | (guard_target =~ wpList _ _ _ ({ dst := some 98, .. } :: _) _ _; refine wpList_load_midG (by kernel_rfl) 43 (.tmp 15) rfl g15 0 rfl M _ r15 Tryz.underlying43 rfl iM ?_) | (guard_target =~ wpList _ _ _ ({ dst := some 99, .. } :: _) _ _; refine wpList_load_midG (by kernel_rfl) 43 (.tmp 17) rfl g17 0 rfl M _ r17 Tryz.underlying43 rfl iM ?_))
      go_ret
      exact ⟨rfl, HTz.out⟩
    · go_wp2_with (first | (guard_target =~ wpList _ _ _ ({ dst := some 98, .. } :: _) _ _; refine wpList_load_midG (by kernel_rfl) 43 (.tmp 15) rfl g15 0 rfl M _ r15 Tryz.underlying43 rfl iM ?_) | (guard_target =~ wpList _ _ _ ({ dst := some 99, .. } :: _) _ _; refine wpList_load_midG (by kernel_rfl) 43 (.tmp 17) rfl g17 0 rfl M _ r17 Tryz.underlying43 rfl iM ?_))
      go_ret
      exact ⟨rfl, HTz.out⟩
  · have hE' : (E != 0) = true := by simpa using he
    clear HVR HFD S7 S9 SA SP he
    go_wp2_with fail
    go_ret
    exact ⟨rfl, HTe.out⟩
end Go.Proofs.YtmihgjdodgmipaaGreatDoor
