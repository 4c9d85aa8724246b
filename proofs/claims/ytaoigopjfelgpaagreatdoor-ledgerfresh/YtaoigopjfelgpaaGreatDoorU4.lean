/- The walk of LedgerFresh. -/
import Derived.Test.YtaoigopjfelgpaaGreatDoorUa
import Derived.Test.YtaoigopjfelgpaaGreatDoorTb
import Derived.Test.YtaoigopjfelgpaaGreatDoorU5
import Derived.Test.YtaoigopjfelgpaaGreatDoorP14
import Derived.Test.YtaoigopjfelgpaaGreatDoorT13
namespace Go.Proofs.YtaoigopjfelgpaaGreatDoor
open Go.RowKit
set_option linter.unusedVariables false

theorem ldC_one {w : World} {e : TypeId} {sz n : Nat} {v : Value} {xs : List Value} (h : OwnN w e sz v n xs) (b s : Nat) : (ldC v b s).toArray.all (·.oneCell') = true := by
  obtain ⟨a, c, rfl, _⟩ := h.form
  simp [ldC, Value.oneCell']
theorem ldC_oneS {v : Value} (h : ∃ a n c, v = .slice a n c) (b s : Nat) : (ldC v b s).toArray.all (·.oneCell') = true := by
  obtain ⟨a, n, c, rfl⟩ := h
  simp [ldC, Value.oneCell']
theorem ldC_info (v : Value) (b s : Nat) : (Tryz.prog.info? 30).map (·.size) = some (ldC v b s).toArray.size := by kernel_rfl
theorem NewO.form {w : World} {B : Nat} {l : List Ac} {v : Value} {q : Nat} {e : Int} (h : NewO w B l v q e) : ∃ a n c, v = .slice a n c := by
  rcases h.2 with ⟨_, O, _⟩ | ⟨_, rfl, _⟩
  · obtain ⟨a, c, rfl, _⟩ := O.form
    exact ⟨a, _, c, rfl⟩
  · exact ⟨_, _, _, rfl⟩
theorem Lr.o' {B : Nat} {W : World} {g n c : Nat} {R : List Lr3} {vs xs : List Value} (h : Lr B W (.slice (some ⟨g, 0, none⟩) n c) R vs xs) (hn : R.length = n) (j : Nat) (u : Value) (hu : xs[j]? = some u) : W.cell? ⟨g, j, none⟩ = some u := by
  have o := h.o
  rw [hn] at o
  exact o.cellAt j u hu
theorem Kp.of_no {w w' : World} (t : Turn no w w') : Kp w w' := fun g cur e h => ⟨cur, t.obj h (fun q => q), rfl⟩
theorem Ov.turn_no {w w' : World} {n : Nat} {v1 v2 : Value} {A : Nat → Value} {M : Nat → Nat} (h : Ov w n v1 v2 A M) (t : Turn no w w') : Ov w' n v1 v2 A M := h.keep (Kp.of_no t) (fun g cur q => ⟨cur, t.obj q (fun q => q), rfl, fun _ => rfl⟩)
theorem bld9 (w : World) : (Instr.build 40 #[(0, .int .u8 9)]).run Tryz.prog w = .ok (.agg (hb32 (9 :: List.replicate 31 0))) w := by kernel_rfl
section
variable {P : Program} {ops : Array Oper} {rest : List Oper} {op : Oper} {a : Act} {w : World} {Q : Exit → Act → World → Prop}
theorem wpList_store_run (hgd : op.guard = none) (hd : op.dst = none) (ty : TypeId) (x y : Operand) (ho : op.op = .store ty x y) (p : Addr) (u : Value) (hx : a.eval x = .pointer (some p)) (hy : a.eval y = u) (w' : World)
    (hr : (Instr.storeAt ty (.pointer (some p)) u).run P w = .ok () w') (h : wpList P ops Q rest a w') : wpList P ops Q (op :: rest) a w :=
  wpList_plain hgd fun K hK => by
    unfold Oper.wp execOp
    simp only [ho, hx, hy, Sem.run_bind, hr, Result.andThen_ok, Sem.run_pure]
    refine hK _ _ ?_
    rw [hd]
    exact h
end
theorem led_scan {l : List Ac} {s : Nat} (h : ledE 0 l [] s = 0) : scanA 0 l = 0 := by
  unfold ledE at h
  by_cases q : 65536 < l.length ∨ 65536 < ([] : List Rl).length
  · rw [if_pos q] at h; cases h
  · rw [if_neg q] at h
    by_cases q2 : scanA 0 l ≠ 0
    · rw [if_pos q2] at h; exact absurd h q2
    · exact Classical.not_not.1 q2
theorem new_asc {l : List Ac} (h : newE l = 0) : Asc l ∧ (∀ m ∈ l, 0 < m.ad) ∧ l.length ≤ 65536 ∧ (∀ m ∈ l, m.bond ≤ 1152921504606846975) := by
  have q := led_asc (led_new h)
  exact ⟨q.1, q.2, (led_small (led_new h)).1, fun m hm => (scanA_ok l 0 (led_scan (led_new h)) m hm).2⟩

set_option maxRecDepth 100000 in
set_option maxHeartbeats 80000000 in
theorem fresh3 (w : World) (l0 : Laid0 w) (l1 : Laid1 w) (h2 : 2 ≤ w.heap.size) (va : Value) (l : List Ac) (ha : As w va l) (hla : l.length * 40 ≤ 140737488351232) (mb : Nat) (st : Int) (sl : Nat) (p3 p4 p5 p6 p7 p8 p9 p10 p11 : Value) (x n : Nat) (hn : n < 18446744073709551616) :
    Calls Tryz.prog 3 #[va, .agg #[.int .u64 mb, .int .i64 st, .int .u64 sl, p3, p4, p5, p6, p7, p8, p9, p10, p11], .int .u64 x, .int .u64 n] w fun e w' => e = .returned (.bool true) ∧ Turn no w w' := by
  have HC15 : Shut (∀ (W : World) (v : Value), As W v l → Asc l → l.length ≤ 65536 → ∀ b s, Calls Tryz.prog 15 #[ldV v b s, .agg #[.int .u64 mb, .int .i64 st, .int .u64 sl, p3, p4, p5, p6, p7, p8, p9, p10, p11]] W fun e w' => ∃ v' L, e = .returned v' ∧ Seated l L mb st ∧ SeO w' W.heap.size v' L ∧ Turn no W w') := fun W v A hA hl b s => rseats15o W v l A hA hl b s mb st (.int .u64 sl) p3 p4 p5 p6 p7 p8 p9 p10 p11
  obtain ⟨PA, hPA⟩ : ∃ PA : Array Value, #[.int .u64 mb, .int .i64 st, .int .u64 sl, p3, p4, p5, p6, p7, p8, p9, p10, p11] = PA := ⟨_, rfl⟩
  have P0 : PA[0]? = some (.int .u64 mb) := by rw [← hPA]; rfl
  have P1 : PA[1]? = some (.int .i64 st) := by rw [← hPA]; rfl
  have P2 : PA[2]? = some (.int .u64 sl) := by rw [← hPA]; rfl
  have iP : (Tryz.prog.info? 25).map (·.size) = some PA.size := by rw [← hPA]; kernel_rfl
  rw [hPA] at HC15 ⊢
  clear hPA
  obtain ⟨w0, hw0⟩ : ∃ w0, w.alloc (.cells PA 25) = w0 := ⟨_, rfl⟩
  have T0 : Turn no w w0 := by rw [← hw0]; exact (Turn.refl no w).alloc _
  have RP : Row w0 w.heap.size PA 25 := by rw [← hw0]; exact Row.new w _ 25
  have hal := alive5 w0
  have HC5 : Shut (∀ W, Turn no w W → Calls Tryz.prog 5 #[va] W fun e w' => ∃ v q k, e = .returned (.tuple #[.agg (ldC v 0 q).toArray, .int .i64 k]) ∧ NewO w' W.heap.size l v q k ∧ Turn no W w') := fun W t => new5o W va l (ha.turn_no t) (by omega)
  obtain ⟨aa, ac, eva, _⟩ := id ha
  subst eva
  have HA : Shut (∀ W, Turn no w W → As W (.slice aa l.length ac) l) := fun W t => ha.turn_no t
  have HLD : Shut (∀ W, Turn no w W → Laid0 W ∧ Laid1 W ∧ 2 ≤ W.heap.size) := fun W t => ⟨l0.turn t (fun q => q), l1.turn t (fun q => q), by have := t.size; omega⟩
  clear ha l0 l1 h2
  obtain ⟨ln, hln⟩ : ∃ ln, Hid (l.length = ln) := ⟨_, rfl⟩
  rw [show l.length = ln from hln.out] at HC5 HA ⊢
  go_enter Tryz.func3, Tryz.ntmps3
  go_upto_region 1 with fail
  try rw [hw0]
  clear hw0
  go_upto_region 4 with (go_at_call 4; refine hal.mono ?_; clear hal; rintro e w1 ⟨rfl, t1⟩)
  have T1 := T0.then_no t1
  have RP1 := RP.turn t1 (fun q => q)
  have hc := HC5.out w1 T1
  have iZ := ldC_info (.slice none 0 0) 0 0
  go_upto_region 5 with (first | (go_at_call 5; refine hc.mono ?_; clear hc; rintro e w2 ⟨vm, q, k, rfl, hN, t2⟩; have iM := ldC_info vm 0 q; have oM := ldC_oneS hN.form 0 q) | (guard_target =~ wpList _ _ _ ({ dst := _, op := Op.store 30 _ _, .. } :: _) _ _; refine wpList_store_anyN rfl rfl 30 (.tmp 10) (.tmp 45) rfl w2.heap.size (ldC vm 0 q).toArray rfl rfl 30 #[.slice none 0 0, .slice none 0 0, .int .u64 0, .int .u64 0] (Row.new w2 _ 30) iM rfl oM ?_; intro w3 R3 t3))
  have T23 : Turn no w2 w3 := ((((Turn.refl no w2).alloc _).of_no.trans t3 (fun _ _ e => e) : Turn (fun q => q = w2.heap.size) w2 w3).mono (fun i hi e => by
    have e' : i = w2.heap.size := e
    omega))
  have T3 := (T1.then_no t2).then_no T23
  have RP3 := (RP1.turn t2 (fun q => q)).turn T23 (fun q => q)
  obtain ⟨hk, hN⟩ := hN
  subst hk
  by_cases hE : newE l = 0
  · rcases hN with ⟨_, OM, fM, rfl⟩ | ⟨q, _⟩
    · obtain ⟨hA, hpos, hl65, hbd⟩ := new_asc hE
      have hok : ∀ m ∈ l, m.ok := (HA.out w (Turn.refl _ _)).oks
      obtain ⟨S, hS⟩ : ∃ S, Hid (sumN 0 l [] = S) := ⟨_, rfl⟩
      have HRW : Shut (rootN l = rootN l) := rfl
      have hR := hashOf_len (restB 0 (sumN 0 l []) [])
      have HC6 : Shut (∀ W, Turn no w W → Calls Tryz.prog 6 #[.slice aa ln ac] W fun e w' => ∃ v, e = .returned (.tuple #[.agg (ldC v 0 S).toArray, .int .i64 0]) ∧ OwnN w' 50 5 v l.length (acC l) ∧ (∀ g, v.ownBlock = some g → W.heap.size ≤ g) ∧ Turn no W w') := fun W t => (new6o W _ l (HA.out W t) (by omega)).mono (by
        rintro e w' ⟨v, q, k, rfl, ⟨rfl, h⟩, t⟩
        rcases h with ⟨h1, O, f, rfl⟩ | ⟨h, _⟩
        · exact ⟨v, by rw [hE, hS.out]; rfl, O, f, t⟩
        · exact absurd hE h)
      have HC7 : Shut (∀ (W : World) (v : Value) (h : Nat), As W v l → 1 ≤ h → h ≤ 1000 → Calls Tryz.prog 7 #[.agg (ldC v 0 S).toArray, .int .u64 h] W fun e w' => ∃ v2, e = .returned (.tuple #[.agg (ldC v2 0 S).toArray, .int .i64 0]) ∧ OwnN w' 50 5 v2 l.length (acC l) ∧ (∀ g, v2.ownBlock = some g → W.heap.size ≤ g) ∧ Turn no W w') := fun W v h A h1 h2 => (pay7o W v l (by omega) 0 S h h1 h2 A).mono (by
        rintro e w' ⟨V, rfl, ⟨v2, rfl, O, f⟩, t⟩
        exact ⟨v2, rfl, O, f, t⟩)
      have HC9 : Shut (∀ (W : World) (v : Value) (h : Nat), As W v l → 1 ≤ h → h ≤ 1000 → Calls Tryz.prog 9 #[.agg (ldC v 0 S).toArray, .int .u64 h] W fun e w' => ∃ v2, e = .returned (.tuple #[.agg (ldC v2 0 S).toArray, .int .i64 0]) ∧ OwnN w' 50 5 v2 l.length (acC l) ∧ (∀ g, v2.ownBlock = some g → W.heap.size ≤ g) ∧ Turn no W w') := fun W v h A h1 h2 => (rpay9o W v l (by omega) 0 S h h1 h2 A).mono (by
        rintro e w' ⟨V, rfl, ⟨v2, rfl, O, f⟩, t⟩
        exact ⟨v2, rfl, O, f, t⟩)
      have HC8 : Shut (∀ (W : World) (v : Value) (h : Nat), As W v l → 1 ≤ h → h ≤ 1000 → Calls Tryz.prog 8 #[.agg (ldC v 0 S).toArray, .agg PA, .int .u64 x, .int .u64 h] W fun e w' => ∃ v2 L b1 s1 k, e = .returned (.tuple #[.agg (ldC v2 b1 s1).toArray, .int .i64 k]) ∧ Pnl l 0 S x sl L b1 s1 ∧ OwnN w' 50 5 v2 L.length (acC L) ∧ (∀ g, v2.ownBlock = some g → W.heap.size ≤ g) ∧ Turn no W w') := fun W v h A h1 h2 => (pun8o W v l A hA hl65 0 S x h sl (fun m hm => by have := hbd m hm; omega) (by omega) h1 h2 PA P2).mono (by
        rintro e w' ⟨V, k, rfl, hP, t⟩
        obtain ⟨L, b1, s1, hp, v2, rfl, O, f⟩ := hP.pn
        exact ⟨v2, L, b1, s1, k, rfl, hp, O, f, t⟩)
      have HC10 : Shut (∀ (W : World) (v : Value) (h : Nat), As W v l → 1 ≤ h → h ≤ 1000 → Calls Tryz.prog 10 #[.agg (ldC v 0 S).toArray, .agg PA, .int .u64 x, .int .u64 h] W fun e w' => ∃ v2 L b1 s1 k, e = .returned (.tuple #[.agg (ldC v2 b1 s1).toArray, .int .i64 k]) ∧ Pnl l 0 S x sl L b1 s1 ∧ OwnN w' 50 5 v2 L.length (acC L) ∧ (∀ g, v2.ownBlock = some g → W.heap.size ≤ g) ∧ Turn no W w') := fun W v h A h1 h2 => (rpun10o W v l A hA hpos hl65 0 S x h sl (fun m hm => by have := hbd m hm; omega) (by omega) h1 h2 PA P2).mono (by
        rintro e w' ⟨V, k, rfl, hP, t⟩
        obtain ⟨L, b1, s1, hp, v2, rfl, O, f⟩ := hP.pn
        exact ⟨v2, L, b1, s1, k, rfl, hp, O, f, t⟩)
      have HC11 : Shut (∀ (W : World) (v : Value), As W v l → Calls Tryz.prog 11 #[.agg (ldC v 0 S).toArray, .agg PA] W fun e w' => ∃ v' L, e = .returned v' ∧ Seated l L mb st ∧ SeO w' W.heap.size v' L ∧ Turn no W w') := fun W v A => seats11o W v l A hA (by omega) 0 S PA mb st P0 P1
      have HC15' : Shut (∀ (W : World) (v : Value), As W v l → Calls Tryz.prog 15 #[.agg (ldC v 0 S).toArray, .agg PA] W fun e w' => ∃ v' L, e = .returned v' ∧ Seated l L mb st ∧ SeO w' W.heap.size v' L ∧ Turn no W w') := fun W v A => HC15.out W v A hA hl65 0 S
      have HC12 : Shut (∀ (W : World) (v : Value), Turn no w W → As W v l → Calls Tryz.prog 12 #[.agg (ldC v 0 S).toArray, .int .u64 x] W fun e w' => ∃ VA : Array Value, e = .returned (.tuple #[.agg VA, .int .i64 0]) ∧ VA.size = 34 ∧ VA.all (·.oneCell') = true ∧ (Tryz.prog.info? 43).map (·.size) = some VA.size ∧ WtO w' W.heap.size (.agg VA) l x (rootN l) ∧ Turn no W w') := fun W v t A => by
        have := prove12o W (HLD.out W t).2.1 (HLD.out W t).2.2 v l A hE x
        rw [show sumN 0 l [] = S from hS.out] at this
        refine this.mono ?_
        rintro e w' ⟨V, rfl, h1, t1⟩
        obtain ⟨VA, rfl, q1, q2, q3⟩ := wto_arr (hashOf_len _) h1
        exact ⟨VA, rfl, q1, q2, q3, h1, t1⟩
      have HC13 : Shut (∀ (W : World) (v : Value), Turn no w W → As W v l → Calls Tryz.prog 13 #[.agg (ldC v 0 S).toArray, .int .u64 x] W fun e w' => ∃ VA : Array Value, e = .returned (.tuple #[.agg VA, .int .i64 0]) ∧ VA.size = 34 ∧ VA.all (·.oneCell') = true ∧ (Tryz.prog.info? 43).map (·.size) = some VA.size ∧ WtO w' W.heap.size (.agg VA) l x (rootN l) ∧ Turn no W w') := fun W v t A => by
        have := rprove13o W (HLD.out W t).1 (HLD.out W t).2.2 v l A hE x
        rw [show sumN 0 l [] = S from hS.out] at this
        refine this.mono ?_
        rintro e w' ⟨V, rfl, h1, t1⟩
        obtain ⟨VA, rfl, q1, q2, q3⟩ := wto_arr (hashOf_len _) h1
        exact ⟨VA, rfl, q1, q2, q3, h1, t1⟩
      have HS14 : Shut (∀ (W : World) (v v' : Value) (r : Lr3), (∀ m ∈ r.1, m.ok) → OwnN W 50 5 v r.1.length (acC r.1) → OwnN W 50 5 v' r.1.length (acC r.1) → Calls Tryz.prog 14 #[.agg (ldC v r.2.1 r.2.2).toArray, .agg (ldC v' r.2.1 r.2.2).toArray] W fun e w' => e = .returned (.bool true) ∧ Turn no W w') := fun W v v' r hk o1 o2 => same14o W 0 0 _ _ r.1 r.2.1 r.2.2 hk ⟨v, rfl, o1, fun _ _ => Nat.zero_le _⟩ ⟨v', rfl, o2, fun _ _ => Nat.zero_le _⟩
      have HS16 : Shut (∀ (W : World) (B B' : Nat) (v u : Value) (L M : List Ac), Seated l L mb st → Seated l M mb st → SeO W B v L → SeO W B' u M → Calls Tryz.prog 16 #[v, u] W fun e w' => e = .returned (.bool true) ∧ Turn no W w') := fun W B B' v u L M h1 h2 h3 h4 => same16o W B B' v u l L M mb st hA h1 h2 h3 h4
      have HS17 : Shut (∀ (W : World) (B B' : Nat) (V V' : Array Value), WtO W B (.agg V) l x (rootN l) → WtO W B' (.agg V') l x (rootN l) → Calls Tryz.prog 17 #[.agg V, .agg V'] W fun e w' => e = .returned (.bool true) ∧ Turn no W w') := fun W B B' V V' h1 h2 => same17o W B B' _ _ l x (rootN l) (hashOf_len _) hok h1 h2
      have HPO : Shut (∀ {L b1 s1}, Pnl l 0 S x sl L b1 s1 → (∀ m ∈ L, m.ok) ∧ L.length ≤ 65536) := fun {L b1 s1} h => ⟨(h.ok hok).1, by have := (h.ok hok).2; omega⟩
      have HP1 : Shut (∀ {L L' b1 s1 b2 s2}, Pnl l 0 S x sl L b1 s1 → Pnl l 0 S x sl L' b2 s2 → L = L' ∧ b1 = b2 ∧ s1 = s2) := fun {L L' b1 s1 b2 s2} h h' => h.one hA h'
      rw [show sumN 0 l [] = S from hS.out] at R3 iM oM
      rw [show l.length = ln from hln.out] at OM
      have hvm : ∀ g, vm.ownBlock = some g → g < w3.heap.size := fun g q => by have := OM.lt q; have := T23.size; omega
      have HOM : Shut (∀ W, Turn no w3 W → OwnN W 50 5 vm l.length (acC l)) := fun W t => (show OwnN w2 50 5 vm l.length (acC l) by rw [hln.out]; exact OM).turn_no (T23.then_no t)
      have HOK : Shut ((∀ m ∈ l, m.ok) ∧ l.length ≤ 65536) := ⟨hok, hl65⟩
      have HAM : Shut (∀ W, Turn no w3 W → As W vm l) := fun W t => (show OwnN w2 50 5 vm l.length (acC l) by rw [hln.out]; exact OM).as hok |>.turn_no (T23.then_no t)
      have HRM : Shut (∀ W, Turn no w3 W → Row W w2.heap.size (ldC vm 0 S).toArray 30 ∧ Row W w.heap.size PA 25) := fun W t => ⟨R3.turn t (fun q => q), RP3.turn t (fun q => q)⟩
      have HT3 : Shut (Turn no w w3) := T3
      generalize w2.heap.size = gm at *
      clear R3 RP3 T3 T23 t3 t2 RP1 T1 t1 RP T0 HC5 HC15 hok hbd hA hpos OM fM
      go_upto_region 8 with fail
      obtain ⟨h, hh⟩ : ∃ h : Nat, Hid (n % 1000 + 1 = h) := ⟨_, rfl⟩
      have h1 : 1 ≤ h := by rw [← hh.out]; omega
      have h1000 : h ≤ 1000 := by rw [← hh.out]; omega
      rw [show ((n : Int) % 1000 + 1) = (h : Int) by rw [← hh.out]; simp]
      go_wp2_with fail
      obtain ⟨B, hB⟩ : ∃ B, Hid (w3.heap.size = B) := ⟨_, rfl⟩
      go_loopw [12, 13, 14] (fun u1 u2 x wr => ∃ (i : Nat) (R : List Lr3) (vs ws xs ys : List Value), i ≤ 2 ∧ x = .int .i64 i ∧ Shut (R.length = 3 * i ∧ Lr w3.heap.size wr u1 R vs xs ∧ Lr w3.heap.size wr u2 R ws ys ∧ (∀ g, u1.ownBlock = some g → u2.ownBlock = some g → False) ∧ Ap vs ∧ (∀ g, Lb vs g → w3.heap.size ≤ g) ∧ (∀ r ∈ R, (∀ m ∈ r.1, m.ok) ∧ r.1.length ≤ 65536) ∧ Turn no w3 wr)) (fun _ _ x _ => 2 - (intOf x).toNat)
      case atStart => exact ⟨0, [], [], [], [], [], by omega, rfl, shut ⟨rfl, Lr.nil _ _, Lr.nil _ _, (fun g q => by cases q), Ap.nil, fun g q => absurd q lb_nil, (fun r q => by cases q), Turn.refl _ _⟩⟩
      case round =>
        obtain ⟨i, R, vs, ws, xs, ys, hi, rfl, hI⟩ := hrel
        obtain ⟨hRl, A1, A2, hne, hAp, hlo, hRk, T⟩ := hI.out
        clear hI
        obtain ⟨a1, c1, e1, _⟩ := A1.o.form
        obtain ⟨a2, c2, e2, _⟩ := A2.o.form
        rw [hRl] at e1 e2
        subst e1
        subst e2
        by_cases hil : i < 2
        · have hil' : (i : Int) < 2 := by omega
          have hRn : R.length ≤ 4 := by omega
          have hc := HC6.out wr (HT3.out.then_no T)
          have hlv : ∀ g, Lb vs g → g < wr.heap.size := fun g q => A1.lt q
          have hl2 : ∀ g, Value.ownBlock (.slice a2 (3 * i) c2) = some g → g < wr.heap.size := fun g q => A2.o.lt q
          go_upto_region 14 with (first | (go_at_call 6; refine hc.mono ?_; clear hc; rintro e wA ⟨v0, rfl, O0, f0, tA⟩; have iv0 := ldC_info v0 0 S; have ov0 := ldC_one O0 0 S) | (guard_target =~ wpList _ _ _ ({ dst := _, op := Op.store 30 _ _, .. } :: _) _ _; refine wpList_store_anyN rfl rfl 30 (.tmp 15) (.tmp 59) rfl wA.heap.size (ldC v0 0 S).toArray rfl rfl 30 #[.slice none 0 0, .slice none 0 0, .int .u64 0, .int .u64 0] (Row.new wA _ 30) iv0 rfl ov0 ?_; intro wB R0 twB))
          have TwB : Turn no wA wB := ((((Turn.refl no wA).alloc _).of_no.trans twB (fun _ _ e => e) : Turn (fun q => q = wA.heap.size) wA wB).mono (fun i hi e => by
            have e' : i = wA.heap.size := e
            omega))
          have hv0 : ∀ g, v0.ownBlock = some g → g < wA.heap.size := fun g q => O0.lt q
          have zv0 : wA.heap.size < wB.heap.size := R0.lt
          have yv0 := tA.size
          have O0 := O0.turn_no TwB
          have A1 := (A1.turn_no tA).turn_no TwB
          have A2 := (A2.turn_no tA).turn_no TwB
          have T2 := (T.then_no tA).then_no TwB
          clear twB TwB tA
          have hc := HC7.out wB vm h (HAM.out wB T2) h1 h1000
          have rm := (HRM.out wB T2).1
          go_upto_region 15 with (first | (guard_target =~ wpList _ _ _ ({ dst := some 62, .. } :: _) _ _; refine wpList_load_row rfl 30 (.tmp 10) rfl gm rfl 30 (ldC vm 0 S).toArray _ _ rm Tryz.underlying30 rfl iM ?_) | (go_at_call 7; refine hc.mono ?_; clear hc; rintro e wC ⟨v1, rfl, O1, f1, tC⟩; have iv1 := ldC_info v1 0 S; have ov1 := ldC_one O1 0 S) | (guard_target =~ wpList _ _ _ ({ dst := _, op := Op.store 30 _ _, .. } :: _) _ _; refine wpList_store_anyN rfl rfl 30 (.tmp 17) (.tmp 65) rfl wC.heap.size (ldC v1 0 S).toArray rfl rfl 30 #[.slice none 0 0, .slice none 0 0, .int .u64 0, .int .u64 0] (Row.new wC _ 30) iv1 rfl ov1 ?_; intro wD R1 twD))
          have TwD : Turn no wC wD := ((((Turn.refl no wC).alloc _).of_no.trans twD (fun _ _ e => e) : Turn (fun q => q = wC.heap.size) wC wD).mono (fun i hi e => by
            have e' : i = wC.heap.size := e
            omega))
          have hv1 : ∀ g, v1.ownBlock = some g → g < wC.heap.size := fun g q => O1.lt q
          have zv1 : wC.heap.size < wD.heap.size := R1.lt
          have yv1 := tC.size
          have O1 := O1.turn_no TwD
          have A1 := (A1.turn_no tC).turn_no TwD
          have A2 := (A2.turn_no tC).turn_no TwD
          have R0 := (R0.turn tC (fun q => q)).turn TwD (fun q => q)
          have O0 := (O0.turn_no tC).turn_no TwD
          have T4 := (T2.then_no tC).then_no TwD
          clear twD TwD tC
          have hc := HC8.out wD vm h (HAM.out wD T4) h1 h1000
          have rm := (HRM.out wD T4).1
          have rp := (HRM.out wD T4).2
          go_upto_region 16 with (first | (guard_target =~ wpList _ _ _ ({ dst := some 68, .. } :: _) _ _; refine wpList_load_row rfl 30 (.tmp 10) rfl gm rfl 30 (ldC vm 0 S).toArray _ _ rm Tryz.underlying30 rfl iM ?_) | (guard_target =~ wpList _ _ _ ({ dst := some 69, .. } :: _) _ _; refine wpList_load_row rfl 25 (.tmp 5) rfl w.heap.size rfl 25 PA _ _ rp Tryz.underlying25 rfl iP ?_) | (go_at_call 8; refine hc.mono ?_; clear hc; rintro e wE ⟨v2, L, b1, s1, k2, rfl, hP, O2, f2, tE⟩; have iv2 := ldC_info v2 b1 s1; have ov2 := ldC_one O2 b1 s1) | (guard_target =~ wpList _ _ _ ({ dst := _, op := Op.store 30 _ _, .. } :: _) _ _; refine wpList_store_anyN rfl rfl 30 (.tmp 19) (.tmp 73) rfl wE.heap.size (ldC v2 b1 s1).toArray rfl rfl 30 #[.slice none 0 0, .slice none 0 0, .int .u64 0, .int .u64 0] (Row.new wE _ 30) iv2 rfl ov2 ?_; intro wF R2 twF))
          have TwF : Turn no wE wF := ((((Turn.refl no wE).alloc _).of_no.trans twF (fun _ _ e => e) : Turn (fun q => q = wE.heap.size) wE wF).mono (fun i hi e => by
            have e' : i = wE.heap.size := e
            omega))
          have hv2 : ∀ g, v2.ownBlock = some g → g < wE.heap.size := fun g q => O2.lt q
          have zv2 : wE.heap.size < wF.heap.size := R2.lt
          have yv2 := tE.size
          have O2 := O2.turn_no TwF
          have A1 := (A1.turn_no tE).turn_no TwF
          have A2 := (A2.turn_no tE).turn_no TwF
          have R0 := (R0.turn tE (fun q => q)).turn TwF (fun q => q)
          have R1 := (R1.turn tE (fun q => q)).turn TwF (fun q => q)
          have O0 := (O0.turn_no tE).turn_no TwF
          have O1 := (O1.turn_no tE).turn_no TwF
          have T6 := (T4.then_no tE).then_no TwF
          clear twF TwF tE
          have HBS := bsl3' wF O0 O1 O2 0 0 b1 S S s1
          obtain ⟨u3, wG, hr, A3, tG, hu3, g3, c3, rfl⟩ := Lr.push A1 (by have := T6.size; omega) hRn (r0 := (l, 0, S)) (r1 := (l, 0, S)) (r2 := (L, b1, s1)) O0 O1 O2
          rw [hRl] at hu3 A3 hr
          go_upto_region 17 with (first | (guard_target =~ wpList _ _ _ ({ dst := some 76, .. } :: _) _ _; refine wpList_load_row rfl 30 (.tmp 15) rfl wA.heap.size rfl 30 (ldC v0 0 S).toArray _ _ R0 Tryz.underlying30 rfl iv0 ?_) | (guard_target =~ wpList _ _ _ ({ dst := some 77, .. } :: _) _ _; refine wpList_load_row rfl 30 (.tmp 17) rfl wC.heap.size rfl 30 (ldC v1 0 S).toArray _ _ R1 Tryz.underlying30 rfl iv1 ?_) | (guard_target =~ wpList _ _ _ ({ dst := some 78, .. } :: _) _ _; refine wpList_load_row rfl 30 (.tmp 19) rfl wE.heap.size rfl 30 (ldC v2 b1 s1).toArray _ _ R2 Tryz.underlying30 rfl iv2 ?_) | (guard_target =~ wpList _ _ _ ({ dst := some 79, .. } :: _) _ _; refine wpList_bslice3 rfl 34 (.tmp 76) (.tmp 77) (.tmp 78) rfl _ _ _ rfl rfl rfl HBS ?_) | (at_builtin; refine wpList_append_run rfl (.tmp 75) (.tmp 79) (t := 34) (tx := 34) rfl _ _ rfl rfl hr ?_))
          have A2 := A2.turn tG (fun g q1 q2 => hne g q2 q1) (fun g q1 q2 => A2.away A1.o (by decide) g q1 q2)
          have Ap1 := hAp.push (v0 := v0) (fun g q1 q2 => by have := f0 g q2; have := hlv g q1; omega)
          have Ap2 := Ap1.push (v0 := v1) (fun g q1 q2 => by have := f1 g q2; rcases lb_snoc q1 with q | q; have := hlv g q; omega; have := hv0 g q; omega)
          have Ap3 := Ap2.push (v0 := v2) (fun g q1 q2 => by have := f2 g q2; rcases lb_snoc q1 with q1 | q; rcases lb_snoc q1 with q | q; have := hlv g q; omega; have := hv0 g q; omega; have := hv1 g q; omega)
          have hlo3 : ∀ g, Lb (vs ++ [v0] ++ [v1] ++ [v2]) g → w3.heap.size ≤ g := fun g q => by
            have := T.size
            rcases lb_snoc q with q | q
            · rcases lb_snoc q with q | q
              · rcases lb_snoc q with q | q
                · exact hlo g q
                · have := f0 g q; omega
              · have := f1 g q; omega
            · have := f2 g q; omega
          rw [show vs ++ [v0] ++ [v1] ++ [v2] = vs ++ [v0, v1, v2] by simp] at Ap3 hlo3
          have T7 : Turn no w3 wG := T6.trans tG (fun k hk q => by have := A1.f k q; omega)
          have hne3 : ∀ g, Value.ownBlock (.slice (some ⟨g3, 0, none⟩) (3 * i + 3) c3) = some g → Value.ownBlock (.slice a2 (3 * i) c2) = some g → False := fun g q1 q2 => by
            rcases hu3 g q1 with q | q
            · exact hne g q q2
            · have := hl2 g q2; omega
          clear HBS hr A1 tG hu3 Ap1 Ap2 hAp hlo hne R0 R1 R2 O0 O1 O2 f0 f1 f2 hv0 hv1 hv2 zv0 zv1 zv2 yv0 yv1 yv2 iv0 iv1 iv2 ov0 ov1 ov2 T2 T4 T6 T hlv hl2
          have hc := HC9.out wG vm h (HAM.out wG T7) h1 h1000
          have rm := (HRM.out wG T7).1
          go_upto_region 18 with (first | (guard_target =~ wpList _ _ _ ({ dst := some 82, .. } :: _) _ _; refine wpList_load_row rfl 30 (.tmp 10) rfl gm rfl 30 (ldC vm 0 S).toArray _ _ rm Tryz.underlying30 rfl iM ?_) | (go_at_call 9; refine hc.mono ?_; clear hc; rintro e wH ⟨v3, rfl, O3, f3, tH⟩; have iv3 := ldC_info v3 0 S; have ov3 := ldC_one O3 0 S) | (guard_target =~ wpList _ _ _ ({ dst := _, op := Op.store 30 _ _, .. } :: _) _ _; refine wpList_store_anyN rfl rfl 30 (.tmp 21) (.tmp 85) rfl wH.heap.size (ldC v3 0 S).toArray rfl rfl 30 #[.slice none 0 0, .slice none 0 0, .int .u64 0, .int .u64 0] (Row.new wH _ 30) iv3 rfl ov3 ?_; intro wI R3 twI))
          have TwI : Turn no wH wI := ((((Turn.refl no wH).alloc _).of_no.trans twI (fun _ _ e => e) : Turn (fun q => q = wH.heap.size) wH wI).mono (fun i hi e => by
            have e' : i = wH.heap.size := e
            omega))
          have hv3 : ∀ g, v3.ownBlock = some g → g < wH.heap.size := fun g q => O3.lt q
          have zv3 : wH.heap.size < wI.heap.size := R3.lt
          have yv3 := tH.size
          have O3 := O3.turn_no TwI
          have A3 := (A3.turn_no tH).turn_no TwI
          have A2 := (A2.turn_no tH).turn_no TwI
          have T9 := (T7.then_no tH).then_no TwI
          clear twI TwI tH
          have hc := HC10.out wI vm h (HAM.out wI T9) h1 h1000
          have rm := (HRM.out wI T9).1
          have rp := (HRM.out wI T9).2
          go_upto_region 19 with (first | (guard_target =~ wpList _ _ _ ({ dst := some 88, .. } :: _) _ _; refine wpList_load_row rfl 30 (.tmp 10) rfl gm rfl 30 (ldC vm 0 S).toArray _ _ rm Tryz.underlying30 rfl iM ?_) | (guard_target =~ wpList _ _ _ ({ dst := some 89, .. } :: _) _ _; refine wpList_load_row rfl 25 (.tmp 5) rfl w.heap.size rfl 25 PA _ _ rp Tryz.underlying25 rfl iP ?_) | (go_at_call 10; refine hc.mono ?_; clear hc; rintro e wJ ⟨v4, L2, b2, s2, k4, rfl, hP2, O4, f4, tJ⟩; have iv4 := ldC_info v4 b2 s2; have ov4 := ldC_one O4 b2 s2) | (guard_target =~ wpList _ _ _ ({ dst := _, op := Op.store 30 _ _, .. } :: _) _ _; refine wpList_store_anyN rfl rfl 30 (.tmp 23) (.tmp 93) rfl wJ.heap.size (ldC v4 b2 s2).toArray rfl rfl 30 #[.slice none 0 0, .slice none 0 0, .int .u64 0, .int .u64 0] (Row.new wJ _ 30) iv4 rfl ov4 ?_; intro wK R4 twK))
          have TwK : Turn no wJ wK := ((((Turn.refl no wJ).alloc _).of_no.trans twK (fun _ _ e => e) : Turn (fun q => q = wJ.heap.size) wJ wK).mono (fun i hi e => by
            have e' : i = wJ.heap.size := e
            omega))
          have hv4 : ∀ g, v4.ownBlock = some g → g < wJ.heap.size := fun g q => O4.lt q
          have zv4 : wJ.heap.size < wK.heap.size := R4.lt
          have yv4 := tJ.size
          have O4 := O4.turn_no TwK
          have A3 := (A3.turn_no tJ).turn_no TwK
          have A2 := (A2.turn_no tJ).turn_no TwK
          have R3 := (R3.turn tJ (fun q => q)).turn TwK (fun q => q)
          have O3 := (O3.turn_no tJ).turn_no TwK
          have T11 := (T9.then_no tJ).then_no TwK
          clear twK TwK tJ
          have hl3 : ∀ g, Value.ownBlock (.slice (some ⟨g3, 0, none⟩) (3 * i + 3) c3) = some g → g < wK.heap.size := fun g q => A3.o.lt q
          obtain ⟨rfl, rfl, rfl⟩ := HP1.out hP hP2
          have OM2 := HOM.out wK T11
          have rm := (HRM.out wK T11).1
          have HBS := bsl3' wK OM2 O3 O4 0 0 b1 S S s1
          obtain ⟨u4, wL, hr, A4, tL, hu4, g4, c4, rfl⟩ := Lr.push A2 (by have := T11.size; omega) hRn (r0 := (l, 0, S)) (r1 := (l, 0, S)) (r2 := (L, b1, s1)) OM2 O3 O4
          rw [hRl] at hu4 A4 hr
          go_wp2_with (first | (guard_target =~ wpList _ _ _ ({ dst := some 96, .. } :: _) _ _; refine wpList_load_row rfl 30 (.tmp 10) rfl gm rfl 30 (ldC vm 0 S).toArray _ _ rm Tryz.underlying30 rfl iM ?_) | (guard_target =~ wpList _ _ _ ({ dst := some 97, .. } :: _) _ _; refine wpList_load_row rfl 30 (.tmp 21) rfl wH.heap.size rfl 30 (ldC v3 0 S).toArray _ _ R3 Tryz.underlying30 rfl iv3 ?_) | (guard_target =~ wpList _ _ _ ({ dst := some 98, .. } :: _) _ _; refine wpList_load_row rfl 30 (.tmp 23) rfl wJ.heap.size rfl 30 (ldC v4 b1 s1).toArray _ _ R4 Tryz.underlying30 rfl iv4 ?_) | (guard_target =~ wpList _ _ _ ({ dst := some 99, .. } :: _) _ _; refine wpList_bslice3 rfl 34 (.tmp 96) (.tmp 97) (.tmp 98) rfl _ _ _ rfl rfl rfl HBS ?_) | (at_builtin; refine wpList_append_run rfl (.tmp 95) (.tmp 99) (t := 34) (tx := 34) rfl _ _ rfl rfl hr ?_))
          have A3 := A3.turn tL (fun g q1 q2 => hne3 g q1 q2) (fun g q1 q2 => A3.away A2.o (by decide) g q1 q2)
          have T12 : Turn no w3 wL := T11.trans tL (fun k hk q => by have := A2.f k q; omega)
          have hne4 : ∀ g, Value.ownBlock (.slice (some ⟨g3, 0, none⟩) (3 * i + 3) c3) = some g → Value.ownBlock (.slice (some ⟨g4, 0, none⟩) (3 * i + 3) c4) = some g → False := fun g q1 q2 => by
            rcases hu4 g q2 with q | q
            · exact hne3 g q1 q
            · have := hl3 g q1; omega
          have hRk2 : ∀ r ∈ R ++ [(l, 0, S), (l, 0, S), (L, b1, s1)], (∀ m ∈ r.1, m.ok) ∧ r.1.length ≤ 65536 := fun r hr => by
            rcases List.mem_append.1 hr with q | q
            · exact hRk r q
            · simp only [List.mem_cons, List.not_mem_nil, or_false] at q
              rcases q with rfl | rfl | rfl
              · exact HOK.out
              · exact HOK.out
              · exact HPO.out hP
          have hRl2 : (R ++ [((l, 0, S) : Lr3), (l, 0, S), (L, b1, s1)]).length = 3 * (i + 1) := by simp [hRl]; omega
          clear HBS hr A2 tL hu4 R3 R4 O3 O4 f3 f4 hv3 hv4 zv3 zv4 yv3 yv4 iv3 iv4 ov3 ov4 T7 T9 T11 hne3 hl3 OM2 rm
          go_roundw
          case rel => exact ⟨i + 1, _, _, _, _, _, by omega, by go_num, shut ⟨hRl2, A3, A4, hne4, Ap3, hlo3, hRk2, T12⟩⟩
          case measure => simp [intOf]; omega
        · have hie : i = 2 := by omega
          subst hie
          obtain ⟨wl, hwl⟩ : ∃ wl, wl = wr := ⟨_, rfl⟩
          subst hwl
          rw [show 3 * 2 = 6 from rfl] at A1 A2 hRl hne ⊢
          rw [show ((2 : Nat) : Int) = 2 from rfl]
          obtain ⟨g1, rfl⟩ : ∃ g1, a1 = some ⟨g1, 0, none⟩ := by
            have o := A1.o
            rw [hRl] at o
            rcases o.2 with ⟨_, q⟩ | ⟨g1, _, _, q, _⟩
            · omega
            · cases q; exact ⟨g1, rfl⟩
          obtain ⟨g2, rfl⟩ : ∃ g2, a2 = some ⟨g2, 0, none⟩ := by
            have o := A2.o
            rw [hRl] at o
            rcases o.2 with ⟨_, q⟩ | ⟨g2, _, _, q, _⟩
            · omega
            · cases q; exact ⟨g2, rfl⟩
          have hlv : ∀ g, Lb vs g → g < wl.heap.size := fun g q => A1.lt q
          have hl1 : g1 < wl.heap.size := A1.o.lt rfl
          have zTW := T.size
          clear HC6 HC7 HC8 HC9 HC10 HPO HP1 hne h1 h1000 hil hi
          have zv43 := zero37
          have sZ : WZ.size = 34 := by kernel_rfl
          generalize WZ = Z at *
          have hc := HC11.out wl vm (HAM.out wl T)
          have rm := (HRM.out wl T).1
          have rp := (HRM.out wl T).2
          go_upto_region 21 with (first | (guard_target =~ wpList _ _ _ ({ dst := some 101, .. } :: _) _ _; refine wpList_load_row rfl 30 (.tmp 10) rfl gm rfl 30 (ldC vm 0 S).toArray _ _ rm Tryz.underlying30 rfl iM ?_) | (guard_target =~ wpList _ _ _ ({ dst := some 102, .. } :: _) _ _; refine wpList_load_row rfl 25 (.tmp 5) rfl w.heap.size rfl 25 PA _ _ rp Tryz.underlying25 rfl iP ?_) | (go_at_call 11; refine hc.mono ?_; clear hc; rintro e wM ⟨sv, Ls, rfl, hLs, hs, tM⟩; obtain ⟨sa, sc, rfl, _⟩ := hs.1.form))
          have A1 := A1.turn_no tM
          have A2 := A2.turn_no tM
          have T1 := T.then_no tM
          have zM := tM.size
          clear tM
          have hc := HC11.out wM vm (HAM.out wM T1)
          have rm := (HRM.out wM T1).1
          have rp := (HRM.out wM T1).2
          go_upto_region 22 with (first | (guard_target =~ wpList _ _ _ ({ dst := some 104, .. } :: _) _ _; refine wpList_load_row rfl 30 (.tmp 10) rfl gm rfl 30 (ldC vm 0 S).toArray _ _ rm Tryz.underlying30 rfl iM ?_) | (guard_target =~ wpList _ _ _ ({ dst := some 105, .. } :: _) _ _; refine wpList_load_row rfl 25 (.tmp 5) rfl w.heap.size rfl 25 PA _ _ rp Tryz.underlying25 rfl iP ?_) | (go_at_call 11; refine hc.mono ?_; clear hc; rintro e wN ⟨tv, Lt, rfl, hLt, ht, tN⟩; obtain ⟨ta, tc, rfl, _⟩ := ht.1.form))
          have A1 := A1.turn_no tN
          have A2 := A2.turn_no tN
          have hs0 : ∀ g, Value.ownBlock (.slice sa Ls.length sc) = some g → g < wM.heap.size := fun g q => hs.1.lt q
          have hs := hs.turn_no tN
          have T2 := T1.then_no tN
          have zN := tN.size
          have hsb : ∀ g, Value.ownBlock (.slice sa Ls.length sc) = some g → wl.heap.size ≤ g ∧ g < wM.heap.size := fun g q => ⟨hs.2 g q, by have := hs0 g q; omega⟩
          have htb : ∀ g, Value.ownBlock (.slice ta Lt.length tc) = some g → wM.heap.size ≤ g ∧ g < wN.heap.size := fun g q => ⟨ht.2 g q, ht.1.lt q⟩
          clear tN T1
          have hc := HC12.out wN vm (HT3.out.then_no T2) (HAM.out wN T2)
          have rm := (HRM.out wN T2).1
          go_upto_region 23 with (first | (guard_target =~ wpList _ _ _ ({ dst := some 108, .. } :: _) _ _; refine wpList_load_row rfl 30 (.tmp 10) rfl gm rfl 30 (ldC vm 0 S).toArray _ _ rm Tryz.underlying30 rfl iM ?_) | (go_at_call 12; refine hc.mono ?_; clear hc; rintro e wO ⟨VA, rfl, v1, v2, v3, hV, tO⟩) | (guard_target =~ wpList _ _ _ ({ dst := _, op := Op.store 43 _ _, .. } :: _) _ _; refine wpList_store_anyN rfl rfl 43 (.tmp 27) (.tmp 111) rfl wO.heap.size VA rfl rfl 43 Z (Row.new wO Z 43) v3 (by rw [sZ, v1]) v2 ?_; intro wP RV tP))
          have TP : Turn no wO wP := ((((Turn.refl no wO).alloc _).of_no.trans tP (fun _ _ e => e) : Turn (fun q => q = wO.heap.size) wO wP).mono (fun i hi e => by
            have e' : i = wO.heap.size := e
            omega))
          have TQ := tO.then_no TP
          have A1 := A1.turn_no TQ
          have A2 := A2.turn_no TQ
          have hs := hs.turn_no TQ
          have ht := ht.turn_no TQ
          obtain ⟨nv, a3, c3, a4, c4, A, M, hn2, e32, e33, OV, hAM, hOb⟩ := wto_ov (hashOf_len (restB 0 (sumN 0 l []) [])) hV
          have OV := OV.turn_no TP
          have hV := hV.turn_no TP
          have T3 := T2.then_no TQ
          have zO := tO.size
          have zP := TP.size
          have zV : wO.heap.size < wP.heap.size := RV.lt
          clear tO tP TP TQ T2
          have hc := HC12.out wP vm (HT3.out.then_no T3) (HAM.out wP T3)
          have rm := (HRM.out wP T3).1
          go_upto_region 24 with (first | (guard_target =~ wpList _ _ _ ({ dst := some 114, .. } :: _) _ _; refine wpList_load_row rfl 30 (.tmp 10) rfl gm rfl 30 (ldC vm 0 S).toArray _ _ rm Tryz.underlying30 rfl iM ?_) | (go_at_call 12; refine hc.mono ?_; clear hc; rintro e wQ ⟨WA, rfl, q1, q2, q3, hW, tQ⟩) | (guard_target =~ wpList _ _ _ ({ dst := _, op := Op.store 43 _ _, .. } :: _) _ _; refine wpList_store_anyN rfl rfl 43 (.tmp 29) (.tmp 117) rfl wQ.heap.size WA rfl rfl 43 Z (Row.new wQ Z 43) q3 (by rw [sZ, q1]) q2 ?_; intro wS RW tS))
          have TP : Turn no wQ wS := ((((Turn.refl no wQ).alloc _).of_no.trans tS (fun _ _ e => e) : Turn (fun q => q = wQ.heap.size) wQ wS).mono (fun i hi e => by
            have e' : i = wQ.heap.size := e
            omega))
          have TQ := tQ.then_no TP
          have A1 := A1.turn_no TQ
          have A2 := A2.turn_no TQ
          have hs := hs.turn_no TQ
          have ht := ht.turn_no TQ
          have hV := hV.turn_no TQ
          have RV := RV.turn TQ (fun q => q)
          have OV := OV.turn_no TQ
          have hW := hW.turn_no TP
          have T4 := T3.then_no TQ
          have zQ := tQ.size
          have zS := TP.size
          have zW : wQ.heap.size < wS.heap.size := RW.lt
          clear tQ tS TP TQ T3
          have hc := HC13.out wS vm (HT3.out.then_no T4) (HAM.out wS T4)
          have rm := (HRM.out wS T4).1
          go_upto_region 25 with (first | (guard_target =~ wpList _ _ _ ({ dst := some 120, .. } :: _) _ _; refine wpList_load_row rfl 30 (.tmp 10) rfl gm rfl 30 (ldC vm 0 S).toArray _ _ rm Tryz.underlying30 rfl iM ?_) | (go_at_call 13; refine hc.mono ?_; clear hc; rintro e wT ⟨XA, rfl, x1, x2, x3, hX, tT⟩) | (guard_target =~ wpList _ _ _ ({ dst := _, op := Op.store 43 _ _, .. } :: _) _ _; refine wpList_store_anyN rfl rfl 43 (.tmp 31) (.tmp 123) rfl wT.heap.size XA rfl rfl 43 Z (Row.new wT Z 43) x3 (by rw [sZ, x1]) x2 ?_; intro wU RX tU))
          have TP : Turn no wT wU := ((((Turn.refl no wT).alloc _).of_no.trans tU (fun _ _ e => e) : Turn (fun q => q = wT.heap.size) wT wU).mono (fun i hi e => by
            have e' : i = wT.heap.size := e
            omega))
          have TQ := tT.then_no TP
          have A1 := A1.turn_no TQ
          have A2 := A2.turn_no TQ
          have hs := hs.turn_no TQ
          have ht := ht.turn_no TQ
          have hV := hV.turn_no TQ
          have RV := RV.turn TQ (fun q => q)
          have hW := hW.turn_no TQ
          have RW := RW.turn TQ (fun q => q)
          have OV := OV.turn_no TQ
          have hX := hX.turn_no TP
          have T5 := T4.then_no TQ
          have zT := tT.size
          have zU := TP.size
          have zX : wT.heap.size < wU.heap.size := RX.lt
          clear tT tU TP TQ T4 HC12 HC13 T rm rp
          have HLR : Shut (∀ W, Turn no wU W → Lr w3.heap.size W (.slice (some ⟨g1, 0, none⟩) 6 c1) R vs xs ∧ Lr w3.heap.size W (.slice (some ⟨g2, 0, none⟩) 6 c2) R ws ys) := fun W t => ⟨A1.turn_no t, A2.turn_no t⟩
          go_wp2_with fail
          go_loopw [33] (fun x wr => ∃ i : Nat, i ≤ 6 ∧ x = .int .i64 i ∧ Turn no wU wr) (fun x _ => 6 - (intOf x).toNat)
          case atStart => exact ⟨0, by omega, rfl, Turn.refl _ _⟩
          case round =>
            obtain ⟨i, hi, rfl, TI⟩ := hrel
            by_cases hil : i < 6
            · have hil' : (i : Int) < 6 := by omega
              obtain ⟨v, hv⟩ : ∃ v, vs[i]? = some v := ⟨vs[i]'(by rw [A1.lv, hRl]; exact hil), List.getElem?_eq_getElem _⟩
              obtain ⟨u, hu⟩ : ∃ u, ws[i]? = some u := ⟨ws[i]'(by rw [A2.lv, hRl]; exact hil), List.getElem?_eq_getElem _⟩
              obtain ⟨r, hr⟩ := A1.get hv
              have B1 := (HLR.out _ TI).1
              have B2 := (HLR.out _ TI).2
              have HR1 : Shut (∀ W, Turn no wr W → W.rangeAt g1 (i * 4) (ldC v r.2.1 r.2.2)) := fun W t j c hc => (B1.turn_no t).o' hRl (i * 4 + j) c (A1.x i v r hv hr j c hc)
              have HR2 : Shut (∀ W, Turn no wr W → W.rangeAt g2 (i * 4) (ldC u r.2.1 r.2.2)) := fun W t j c hc => (B2.turn_no t).o' hRl (i * 4 + j) c (A2.x i u r hu hr j c hc)
              have O1 := B1.own i v r hv hr
              have O2 := B2.own i u r hu hr
              have hk := (hRk r (List.mem_of_getElem? hr)).1
              have hcc : Shut (∀ W, Turn no wr W → Calls Tryz.prog 14 #[.agg (ldC v r.2.1 r.2.2).toArray, .agg (ldC u r.2.1 r.2.2).toArray] W fun e w' => e = .returned (.bool true) ∧ Turn no W w') := fun W t => HS14.out W v u r hk (O1.turn_no t) (O2.turn_no t)
              have i1 : (Tryz.prog.info? 30).map (·.size) = some (ldC v r.2.1 r.2.2).length := by kernel_rfl
              have i2 : (Tryz.prog.info? 30).map (·.size) = some (ldC u r.2.1 r.2.2).length := by kernel_rfl
              clear O1 O2 B1 B2 hk
              generalize ldC v r.2.1 r.2.2 = C1 at *
              generalize ldC u r.2.1 r.2.2 = C2 at *
              go_upto_region 28 with fail
              refine wp_region_held_drew (S := fun W => Turn no wr W) (by kernel_rfl) (Turn.refl _ wr).drew (fun hHeld => ?_)
              refine' wpAnyH_take (i := 0) (v := .slice (some ⟨g1, 0, none⟩) 6 c1) rfl (by kernel_rfl) (by kernel_rfl) (by kernel_rfl) (fun _ _ _ h => h) (Or.inl ⟨by kernel_rfl, fun W hW => ?y0⟩) hHeld ?r0
              · go_simp
              refine' wpAnyH_take (i := 1) (v := .int .i64 i) rfl (by kernel_rfl) (by kernel_rfl) (by kernel_rfl) (fun _ _ _ h => h) (Or.inl ⟨by kernel_rfl, fun W hW => ?y1⟩) hHeld ?r1
              · go_simp
              refine' wpAnyH_take (i := 2) (v := .pointer (some ⟨g1, i * 4, none⟩)) rfl (by kernel_rfl) (by kernel_rfl) (by kernel_rfl) (fun _ _ _ h => h) (Or.inl ⟨by kernel_rfl, fun W hW => ?y2⟩) hHeld ?r2
              · go_simp
              refine' wpAnyH_take (i := 3) (v := .agg (C1).toArray) rfl (by kernel_rfl) (by kernel_rfl) (by kernel_rfl) (fun _ _ _ h => h) (yieldsIf_load_mid (by kernel_rfl) 30 (.tmp 133) rfl g1 (i * 4) (by kernel_rfl) (C1) _ (fun W h => HR1.out W h) Tryz.underlying30 rfl i1) hHeld ?r3
              refine' wpAnyH_take (i := 4) (v := .slice (some ⟨g2, 0, none⟩) 6 c2) rfl (by kernel_rfl) (by kernel_rfl) (by kernel_rfl) (fun _ _ _ h => h) (Or.inl ⟨by kernel_rfl, fun W hW => ?y4⟩) hHeld ?r4
              · go_simp
              refine' wpAnyH_take (i := 5) (v := .int .i64 i) rfl (by kernel_rfl) (by kernel_rfl) (by kernel_rfl) (fun _ _ _ h => h) (Or.inl ⟨by kernel_rfl, fun W hW => ?y5⟩) hHeld ?r5
              · go_simp
              refine' wpAnyH_take (i := 6) (v := .pointer (some ⟨g2, i * 4, none⟩)) rfl (by kernel_rfl) (by kernel_rfl) (by kernel_rfl) (fun _ _ _ h => h) (Or.inl ⟨by kernel_rfl, fun W hW => ?y6⟩) hHeld ?r6
              · go_simp
              refine' wpAnyH_take (i := 7) (v := .agg (C2).toArray) rfl (by kernel_rfl) (by kernel_rfl) (by kernel_rfl) (fun _ _ _ h => h) (yieldsIf_load_mid (by kernel_rfl) 30 (.tmp 137) rfl g2 (i * 4) (by kernel_rfl) (C2) _ (fun W h => HR2.out W h) Tryz.underlying30 rfl i2) hHeld ?r7
              refine wpAnyH_ready (rs := [8]) (by kernel_rfl) (by simp) ?_
              refine AllReadyH.cons rfl (fun K hK => ?_) AllReadyH.nil
              go_simp
              refine (hcc.out wr.drew (Turn.refl _ wr).drew).mono ?_
              rintro e wa ⟨rfl, ta⟩
              have Ta : Turn no wr wa := (Turn.refl no wr).drew.then_no ta
              have T6 := TI.then_no Ta
              go_wp2_with fail
              refine hK.out _ _ Ta (fun hHeld => ?_)
              clear hK
              refine wpAnyH_ready (rs := [9]) (by kernel_rfl) (by simp) ?_
              refine AllReadyH.cons rfl (fun K hK => ?_) AllReadyH.nil
              go_simp
              refine hK.out _ _ Ta (fun hHeld => ?_)
              clear hK
              refine wpAnyH_done (by kernel_rfl) ?_ _
              go_wp2_with fail
              go_roundw
              case rel => exact ⟨i + 1, by omega, by go_num, T6⟩
              case measure => simp [intOf]; omega
            · have hie : i = 6 := by omega
              subst hie
              rw [show ((6 : Nat) : Int) = 6 from rfl]
              obtain ⟨wm, hwm⟩ : ∃ wm, wm = wr := ⟨_, rfl⟩
              subst hwm
              have T6 := T5.then_no TI
              have hs := hs.turn_no TI
              have ht := ht.turn_no TI
              have hV := hV.turn_no TI
              have hW := hW.turn_no TI
              have hX := hX.turn_no TI
              have RV := RV.turn TI (fun q => q)
              have RW := RW.turn TI (fun q => q)
              have RX := RX.turn TI (fun q => q)
              have A1 := A1.turn_no TI
              have OV := OV.turn_no TI
              have zI := TI.size
              have hc := HC15'.out wm vm (HAM.out wm T6)
              have rm := (HRM.out wm T6).1
              have rp := (HRM.out wm T6).2
              clear HS14 TI HLR T5 hil hi A2
              go_upto_region 31 with (first | (guard_target =~ wpList _ _ _ ({ dst := some 141, .. } :: _) _ _; refine wpList_load_row rfl 30 (.tmp 10) rfl gm rfl 30 (ldC vm 0 S).toArray _ _ rm Tryz.underlying30 rfl iM ?_) | (guard_target =~ wpList _ _ _ ({ dst := some 142, .. } :: _) _ _; refine wpList_load_row rfl 25 (.tmp 5) rfl w.heap.size rfl 25 PA _ _ rp Tryz.underlying25 rfl iP ?_) | (go_at_call 15; refine hc.mono ?_; clear hc; rintro e wE ⟨ev, Le, rfl, hLe, he, tE⟩; obtain ⟨ea, ec, rfl, _⟩ := he.1.form))
              have T7 := T6.then_no tE
              have hs := hs.turn_no tE
              have ht := ht.turn_no tE
              have hV := hV.turn_no tE
              have hW := hW.turn_no tE
              have hX := hX.turn_no tE
              have RV := RV.turn tE (fun q => q)
              have RW := RW.turn tE (fun q => q)
              have RX := RX.turn tE (fun q => q)
              have A1 := A1.turn_no tE
              have OV := OV.turn_no tE
              have zE := tE.size
              clear tE T6 HC15'
              obtain ⟨VL, rfl⟩ : ∃ L : List Value, VA = L.toArray := ⟨VA.toList, (Array.toArray_toList).symm⟩
              obtain ⟨WL, rfl⟩ : ∃ L : List Value, WA = L.toArray := ⟨WA.toList, (Array.toArray_toList).symm⟩
              obtain ⟨XL, rfl⟩ : ∃ L : List Value, XA = L.toArray := ⟨XA.toList, (Array.toArray_toList).symm⟩
              have iV : (Tryz.prog.info? 43).map (·.size) = some VL.length := by rw [← List.size_toArray]; exact v3
              have iW : (Tryz.prog.info? 43).map (·.size) = some WL.length := by rw [← List.size_toArray]; exact q3
              have iX : (Tryz.prog.info? 43).map (·.size) = some XL.length := by rw [← List.size_toArray]; exact x3
              have HROW : Shut (∀ W, Turn no wE W → W.rangeAt wO.heap.size 0 VL ∧ W.rangeAt wQ.heap.size 0 WL ∧ W.rangeAt wT.heap.size 0 XL) := fun W t => ⟨rowL (RV.turn t (fun q => q)), rowL (RW.turn t (fun q => q)), rowL (RX.turn t (fun q => q))⟩
              have hc1 := HS16.out wE _ _ _ _ _ _ hLs hLe hs he
              go_upto_region 33 with (first | (go_at_call 16; refine hc1.mono ?_; clear hc1; rintro e wF ⟨rfl, tF⟩; have hc2 := HS16.out wF _ _ _ _ _ _ hLt hLe (ht.turn_no tF) (he.turn_no tF)) | (go_at_call 16; refine hc2.mono ?_; clear hc2; rintro e wG ⟨rfl, tG⟩; have tG2 := tF.then_no tG; obtain ⟨rv, rw1, rx⟩ := HROW.out wG tG2; have hc3 := HS17.out wG _ _ _ _ (hV.turn_no tG2) (hX.turn_no tG2)) | (guard_target =~ wpList _ _ _ ({ dst := some 155, .. } :: _) _ _; refine wpList_load_midG (by kernel_rfl) 43 (.tmp 27) rfl wO.heap.size 0 rfl VL _ rv Tryz.underlying43 rfl iV ?_) | (guard_target =~ wpList _ _ _ ({ dst := some 156, .. } :: _) _ _; refine wpList_load_midG (by kernel_rfl) 43 (.tmp 31) rfl wT.heap.size 0 rfl XL _ rx Tryz.underlying43 rfl iX ?_) | (go_at_call 17; refine hc3.mono ?_; clear hc3 rv rw1 rx; rintro e wH ⟨rfl, tH⟩; have tH2 := tG2.then_no tH; obtain ⟨rv, rw1, rx⟩ := HROW.out wH tH2; have hc4 := HS17.out wH _ _ _ _ (hW.turn_no tH2) (hX.turn_no tH2)) | (guard_target =~ wpList _ _ _ ({ dst := some 161, .. } :: _) _ _; refine wpList_load_midG (by kernel_rfl) 43 (.tmp 29) rfl wQ.heap.size 0 rfl WL _ rw1 Tryz.underlying43 rfl iW ?_) | (guard_target =~ wpList _ _ _ ({ dst := some 162, .. } :: _) _ _; refine wpList_load_midG (by kernel_rfl) 43 (.tmp 31) rfl wT.heap.size 0 rfl XL _ rx Tryz.underlying43 rfl iX ?_) | (go_at_call 17; refine hc4.mono ?_; clear hc4 rv rw1 rx; rintro e wz ⟨rfl, tz⟩))
              have tz2 := tH2.then_no tz
              have T8 := T7.then_no tz2
              have zz := tz2.size
              have zgm := (HRM.out w3 (Turn.refl _ _)).1.lt
              have zgp := (HRM.out w3 (Turn.refl _ _)).2.lt
              have HK : Shut (∀ W, Turn (fun g => (wN.heap.size ≤ g ∧ g < wO.heap.size) ∨ (w3.heap.size ≤ g ∧ g < wM.heap.size)) wz W → (Row W gm (ldC vm 0 S).toArray 30 ∧ Row W w.heap.size PA 25 ∧ As W vm l) ∧ (SeO W wM.heap.size (.slice ta Lt.length tc) Lt ∧ SeO W wm.heap.size (.slice ea Le.length ec) Le ∧ WtO W wP.heap.size (.agg WL.toArray) l x (rootN l) ∧ WtO W wS.heap.size (.agg XL.toArray) l x (rootN l)) ∧ Row W wO.heap.size VL.toArray 43 ∧ Row W wQ.heap.size WL.toArray 43 ∧ Row W wT.heap.size XL.toArray 43) := fun W t =>
                ⟨⟨(HRM.out wz T8).1.turn t (by rintro (q | q) <;> omega), (HRM.out wz T8).2.turn t (by rintro (q | q) <;> omega), ((HOM.out wz T8).turn t (fun g q => by have := hvm g q; rintro (q | q) <;> omega)).as HOK.out.1⟩,
                ⟨⟨(ht.turn_no tz2).1.turn t (fun g q => by have := htb g q; rintro (q | q) <;> omega), ht.2⟩, (he.turn_no tz2).turn t (fun k hk => by rintro (q | q) <;> omega), (hW.turn_no tz2).turn t (fun k hk => by rintro (q | q) <;> omega), (hX.turn_no tz2).turn t (fun k hk => by rintro (q | q) <;> omega)⟩,
                (RV.turn tz2 (fun q => q)).turn t (by rintro (q | q) <;> omega), (RW.turn tz2 (fun q => q)).turn t (by rintro (q | q) <;> omega), (RX.turn tz2 (fun q => q)).turn t (by rintro (q | q) <;> omega)⟩
              have HLR : Shut (∀ W, Turn (fun g => (wN.heap.size ≤ g ∧ g < wO.heap.size) ∨ (wl.heap.size ≤ g ∧ g < wM.heap.size)) wz W → Lr w3.heap.size W (.slice (some ⟨g1, 0, none⟩) 6 c1) R vs xs) := fun W t => (A1.turn_no tz2).turn t (fun g q => by have e : g1 = g := (by simpa [Value.ownBlock] using q); rintro (q | q) <;> omega) (fun g q => by have := hlv g q; rintro (q | q) <;> omega)
              have hs := hs.turn_no tz2
              have HTz : Shut (Turn no w wz) := HT3.out.then_no T8
              have OV := OV.turn_no tz2
              have HS1 : Shut (∀ W, Turn (fun g => wN.heap.size ≤ g ∧ g < wO.heap.size) wz W → Row W wO.heap.size VL.toArray 43) := fun W t => (HK.out W (t.mono (fun _ _ q => Or.inl q))).2.2.1
              have hOb1 : ∀ g, Ob nv (.slice a3 nv c3) (.slice a4 nv c4) A g → wN.heap.size ≤ g ∧ g < wO.heap.size := hOb
              clear hV RV RW RX hW hX ht he HROW tF tG tG2 tH tH2 tz tz2 T7 A1
              go_wp2_with fail
              go_loopw [35] (fun x wr => ∃ i : Nat, i ≤ nv ∧ x = .int .i64 i ∧ Shut (Ov wr nv (.slice a3 nv c3) (.slice a4 nv c4) A M ∧ Turn (fun g => wN.heap.size ≤ g ∧ g < wO.heap.size) wz wr)) (fun x _ => nv - (intOf x).toNat)
              case atStart => exact ⟨0, by omega, rfl, shut ⟨OV, Turn.refl _ _⟩⟩
              case round =>
                clear OV
                obtain ⟨i, hi, rfl, hI⟩ := hrel
                by_cases hil : i < nv
                · have hil' : (i : Int) < (nv : Int) := by omega
                  obtain ⟨OV, TS⟩ := hI.out
                  have rv := HS1.out _ TS
                  have x32 := rv.cell 32 _ e32
                  have lv := rv.lt
                  obtain ⟨ga, ca, ea, ⟨ua, x50⟩, f50⟩ := OV.at1 hil
                  cases ea
                  have hga := hOb1 ga (Or.inl rfl)
                  go_upto_region 37 with fail
                  obtain ⟨wa, hwa⟩ : ∃ wa, wr.setCell ⟨ga, i * 5, none⟩ (.int .u64 999) = wa := ⟨_, rfl⟩
                  rw [hwa]
                  have OVa : Ov wa nv (.slice (some ⟨ga, 0, none⟩) nv c3) (.slice a4 nv c4) A M := by rw [← hwa]; exact OV.acc _ _
                  have TSa : Turn (fun g => wN.heap.size ≤ g ∧ g < wO.heap.size) wz wa := by rw [← hwa]; exact TS.setCell (p := ⟨ga, i * 5, none⟩) (fun _ => hga) _
                  clear hwa OV TS x32 x50 f50 rv lv hI
                  have rv := HS1.out _ TSa
                  have x33 := rv.cell 33 _ e33
                  obtain ⟨gb, cb, eb, xA, ⟨ub, x53⟩, f53⟩ := OVa.at2 hil
                  cases eb
                  have hgb := hOb1 gb (Or.inr (Or.inl rfl))
                  obtain ⟨da, dc, hAi, hMl⟩ := hAM i hil
                  go_upto_region 38 with fail
                  obtain ⟨wb, hwb⟩ : ∃ wb, wa.setCell ⟨gb, i * 3 + 1, none⟩ (.int .i64 999) = wb := ⟨_, rfl⟩
                  rw [hwb]
                  have OVb : Ov wb nv (.slice (some ⟨ga, 0, none⟩) nv c3) (.slice (some ⟨gb, 0, none⟩) nv c4) A M := by rw [← hwb]; exact OVa.idx _ _
                  have TSb : Turn (fun g => wN.heap.size ≤ g ∧ g < wO.heap.size) wz wb := by rw [← hwb]; exact TSa.setCell (p := ⟨gb, i * 3 + 1, none⟩) (fun _ => hgb) _
                  clear hwb OVa TSa x33 x53 f53 xA rv
                  obtain ⟨m, hm⟩ : ∃ m, Hid (M i = m) := ⟨_, rfl⟩
                  rw [show M i = m from hm.out] at hAi hMl
                  have HB9 : Shut (∀ W, (Instr.build 40 #[(0, .int .u8 9)]).run Tryz.prog W = .ok (.agg (hb32 (9 :: List.replicate 31 0))) W) := fun W => bld9 W
                  have hml : m ≤ 9223372036854775807 := by have := hMl; simp only [maxLen] at this; omega
                  clear hMl
                  go_wp2_with fail
                  go_loopw [36] (fun x wr => ∃ k : Nat, k ≤ m ∧ x = .int .i64 k ∧ Shut (Ov wr nv (.slice (some ⟨ga, 0, none⟩) nv c3) (.slice (some ⟨gb, 0, none⟩) nv c4) A M ∧ Turn (fun g => wN.heap.size ≤ g ∧ g < wO.heap.size) wz wr)) (fun x _ => m - (intOf x).toNat)
                  case atStart => exact ⟨0, by omega, rfl, shut ⟨OVb, TSb⟩⟩
                  case round =>
                    clear OVb TSb
                    obtain ⟨k, hk, rfl, hJ⟩ := hrel
                    obtain ⟨OV, TS⟩ := hJ.out
                    have rv := HS1.out _ TS
                    have x33 := rv.cell 33 _ e33
                    obtain ⟨gb', cb', eb', xA, _, _⟩ := OV.at2 hil
                    cases eb'
                    rw [hAi] at xA
                    clear hJ
                    by_cases hkl : k < m
                    · have hkl' : (k : Int) < (m : Int) := by omega
                      obtain ⟨gd, cd, ed, -⟩ := (OV.aun i hil).at (by rw [hm.out]; omega)
                      have ed2 := ed
                      rw [hAi, hm.out] at ed
                      cases ed
                      obtain ⟨wd, hst, OVd, td⟩ := OV.dig hil ed2 k (by rw [hm.out]; exact hkl) (9 :: List.replicate 31 0) (by simp)
                      have hgd := hOb1 gd (Or.inr (Or.inr ⟨i, hil, by rw [ed2]; rfl⟩))
                      have TSd : Turn (fun g => wN.heap.size ≤ g ∧ g < wO.heap.size) wz wd := TS.trans td (fun b _ q => by have q' : b = gd := q; rw [q']; exact hgd)
                      have hb9 := HB9.out wr
                      generalize hb32 (9 :: List.replicate 31 0) = H9 at *
                      clear OV TS td ed2
                      go_wp2_with (first | (guard_target =~ wpList _ _ _ ({ dst := some 201, .. } :: _) _ _; refine wpList_build1 rfl 40 _ rfl _ rfl _ _ hb9 ?_) | (guard_target =~ wpList _ _ _ ({ dst := _, op := Op.store 40 _ _, .. } :: _) _ _; refine wpList_store_run rfl rfl 40 (.tmp 202) (.tmp 201) rfl ⟨gd, k * 32, none⟩ _ rfl rfl wd hst ?_))
                      go_roundw
                      case rel => exact ⟨k + 1, by omega, by go_num, shut ⟨OVd, TSd⟩⟩
                      case measure => simp [intOf]; omega
                    · have hke : k = m := by omega
                      subst hke
                      have hkl' : ¬ (k : Int) < (k : Int) := by omega
                      go_wp2_with fail
                      go_roundw
                      case rel => exact ⟨i + 1, by omega, by go_num, shut ⟨OV, TS⟩⟩
                      case measure => simp [intOf]; omega
                · have hie : i = nv := by omega
                  subst hie
                  have hil' : ¬ (i : Int) < (i : Int) := by omega
                  obtain ⟨OV, TS⟩ := hI.out
                  have rv := HS1.out _ TS
                  have x32 := rv.cell 32 _ e32
                  go_wp2_with fail
                  obtain ⟨wk, hwk⟩ : ∃ wk, wk = wr := ⟨_, rfl⟩
                  subst hwk
                  obtain ⟨ns, hns⟩ : ∃ ns, Hid (Ls.length = ns) := ⟨_, rfl⟩
                  have WX : Wx wk 55 3 (.slice sa ns sc) ns := by
                    have o := (hs.1.turn TS (fun g q => by have := hsb g q; rintro q; omega)).wx
                    rw [show Ls.length = ns from hns.out] at o
                    exact o
                  rw [show Ls.length = ns from hns.out] at hsb ⊢
                  have hnl : ns ≤ 9223372036854775807 := by
                    obtain ⟨_, _, _, q⟩ := WX.form
                    simp only [maxLen] at q
                    omega
                  clear OV hs rv x32 HS1 hI hil' hil hi
                  go_wp2_with fail
                  go_loopw [37] (fun x wr => ∃ j : Nat, j ≤ ns ∧ x = .int .i64 j ∧ Shut (Wx wr 55 3 (.slice sa ns sc) ns ∧ Turn (fun g => Value.ownBlock (.slice sa ns sc) = some g) wk wr)) (fun x _ => ns - (intOf x).toNat)
                  case atStart => exact ⟨0, by omega, rfl, shut ⟨WX, Turn.refl _ _⟩⟩
                  case round =>
                    clear WX
                    obtain ⟨j, hj, rfl, hJ⟩ := hrel
                    by_cases hjl : j < ns
                    · have hjl' : (j : Int) < (ns : Int) := by omega
                      obtain ⟨WX, TJ⟩ := hJ.out
                      clear hJ
                      obtain ⟨gs, cs, es, cur, hcur, _⟩ := WX.at (by omega)
                      cases es
                      obtain ⟨us, x55, f55⟩ := WX.cell (j * 3) (by omega)
                      have WX2 : Wx (wr.setCell ⟨gs, j * 3, none⟩ (.int .u64 999)) 55 3 (.slice (some ⟨gs, 0, none⟩) ns sc) ns := WX.keep (Kp.set hcur _ _)
                      have TJ2 : Turn (fun g => Value.ownBlock (.slice (some ⟨gs, 0, none⟩) ns sc) = some g) wk (wr.setCell ⟨gs, j * 3, none⟩ (.int .u64 999)) := TJ.setCell (p := ⟨gs, j * 3, none⟩) (fun _ => rfl) _
                      clear WX TJ hcur
                      go_wp2_with fail
                      go_roundw
                      case rel => exact ⟨j + 1, by omega, by go_num, shut ⟨WX2, TJ2⟩⟩
                      case measure => simp [intOf]; omega
                    · have hje : j = ns := by omega
                      subst hje
                      have hjl' : ¬ (j : Int) < (j : Int) := by omega
                      obtain ⟨WX, TJ⟩ := hJ.out
                      obtain ⟨wx, hwx⟩ : ∃ wx, wx = wr := ⟨_, rfl⟩
                      subst hwx
                      have T2 : Turn (fun g => (wN.heap.size ≤ g ∧ g < wO.heap.size) ∨ (wl.heap.size ≤ g ∧ g < wM.heap.size)) wz wx := (TS.mono (S' := (fun g => (wN.heap.size ≤ g ∧ g < wO.heap.size) ∨ (wl.heap.size ≤ g ∧ g < wM.heap.size))) (fun _ _ q => Or.inl q)).trans TJ (fun b _ q => Or.inr (by have := hsb b q; exact this))
                      have LX := (HLR.out wx T2)
                      have OX := LX.o
                      rw [hRl] at OX
                      have h18 := apart18 wx g1 6 c1 vs xs (fun k => (R.getD k ([], 0, 0)).1) OX (fun k v hv => by
                        obtain ⟨r, hr⟩ := LX.get hv
                        exact LX.x k v r hv hr 0 v rfl) (by rw [LX.lv, hRl]) (by omega) (by omega) (LX.lx hAp (fun r hr => (hRk r hr).1)) (fun k => by
                        rw [List.getD_eq_getElem?_getD]
                        cases hk : R[k]? with
                        | none => simp
                        | some r => have := (hRk r (List.mem_of_getElem? hk)).2; simp only [Option.getD_some]; omega)
                      clear LX OX WX TJ TS hJ HLR
                      go_upto_region 47 with (go_at_call 18; refine h18.mono ?_; clear h18; rintro e wY ⟨rfl, tY⟩)
                      have T3 : Turn (fun g => (wN.heap.size ≤ g ∧ g < wO.heap.size) ∨ (w3.heap.size ≤ g ∧ g < wM.heap.size)) wz wY := (T2.mono (S' := (fun g => (wN.heap.size ≤ g ∧ g < wO.heap.size) ∨ (w3.heap.size ≤ g ∧ g < wM.heap.size))) (fun b _ q => q.elim Or.inl (fun q => Or.inr (by have q' : wl.heap.size ≤ b ∧ b < wM.heap.size := q; omega)))).trans tY (fun b _ q => Or.inr (by have := hlo b q; have := hlv b q; omega))
                      obtain ⟨⟨rm, rp, AM⟩, -, -⟩ := HK.out wY T3
                      have hc := HC11.out wY vm AM
                      go_upto_region 48 with (first | (guard_target =~ wpList _ _ _ ({ dst := some 215, .. } :: _) _ _; refine wpList_load_row rfl 30 (.tmp 10) rfl gm rfl 30 (ldC vm 0 S).toArray _ _ rm Tryz.underlying30 rfl iM ?_) | (guard_target =~ wpList _ _ _ ({ dst := some 216, .. } :: _) _ _; refine wpList_load_row rfl 25 (.tmp 5) rfl w.heap.size rfl 25 PA _ _ rp Tryz.underlying25 rfl iP ?_) | (go_at_call 11; refine hc.mono ?_; clear hc; rintro e wA ⟨nv2, Ln, rfl, hLn, hn3, tA⟩; obtain ⟨na, nc, rfl, _⟩ := hn3.1.form))
                      have T4 := T3.then_no tA
                      clear rm rp AM tY T2 T3
                      obtain ⟨-, ⟨ht, he, hW, hX⟩, -, RW, RX⟩ := HK.out wA T4
                      have HROW : Shut (∀ W, Turn no wA W → W.rangeAt wQ.heap.size 0 WL ∧ W.rangeAt wT.heap.size 0 XL) := fun W t => ⟨rowL (RW.turn t (fun q => q)), rowL (RX.turn t (fun q => q))⟩
                      have hc1 := HS16.out wA _ _ _ _ _ _ hLt hLe ht he
                      go_wp2_with (first | (go_at_call 16; refine hc1.mono ?_; clear hc1; rintro e wF ⟨rfl, tF⟩; have hc2 := HS16.out wF _ _ _ _ _ _ hLn hLe (hn3.turn_no tF) (he.turn_no tF)) | (go_at_call 16; refine hc2.mono ?_; clear hc2; rintro e wG ⟨rfl, tG⟩; have tG2 := tF.then_no tG; obtain ⟨rw1, rx⟩ := HROW.out wG tG2; have hc3 := HS17.out wG _ _ _ _ (hW.turn_no tG2) (hX.turn_no tG2)) | (guard_target =~ wpList _ _ _ ({ dst := some 230, .. } :: _) _ _; refine wpList_load_midG (by kernel_rfl) 43 (.tmp 29) rfl wQ.heap.size 0 rfl WL _ rw1 Tryz.underlying43 rfl iW ?_) | (guard_target =~ wpList _ _ _ ({ dst := some 231, .. } :: _) _ _; refine wpList_load_midG (by kernel_rfl) 43 (.tmp 31) rfl wT.heap.size 0 rfl XL _ rx Tryz.underlying43 rfl iX ?_) | (go_at_call 17; refine hc3.mono ?_; clear hc3 rw1 rx; rintro e wH ⟨rfl, tH⟩))
                      have T5 := T4.then_no (tG2.then_no tH)
                      have z3 := HT3.out.size
                      have TF : Turn no w wH := HTz.out.trans T5 (fun b hb q => by
                        have q' : (wN.heap.size ≤ b ∧ b < wO.heap.size) ∨ (w3.heap.size ≤ b ∧ b < wM.heap.size) := q
                        omega)
                      go_ret
                      exact ⟨rfl, TF⟩
    · exact absurd hE q
  · have hE' : (newE l != 0) = true := by simpa using hE
    clear hN R3 RP3
    go_wp2_with fail
    go_ret
    exact ⟨rfl, T3⟩
end Go.Proofs.YtaoigopjfelgpaaGreatDoor
