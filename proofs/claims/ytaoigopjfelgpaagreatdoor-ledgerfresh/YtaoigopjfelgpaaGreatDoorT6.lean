/- Prove of the program, with the memory it has laid new -/
import Derived.Test.YtaoigopjfelgpaaGreatDoorQ2
namespace Go.Proofs.YtaoigopjfelgpaaGreatDoor
open Go.RowKit
set_option linter.unusedVariables false

theorem An.le {B B0 : Nat} {W : World} {l : List Ac} {ps : List Nat} {v : Value} (h : An B W l ps v) (hb : B0 ≤ B) : An B0 W l ps v := ⟨h.own, fun g hg => Nat.le_trans hb (h.new g hg)⟩
theorem Hn.le {B B0 : Nat} {W : World} {A : List (List UInt8)} {a : Option Addr} {c : Nat} (h : Hn B W A a c) (hb : B0 ≤ B) : Hn B0 W A a c := ⟨h.own, fun g hg => Nat.le_trans hb (h.new g hg)⟩
theorem Qn.le {B B0 : Nat} {W : World} {l : List Ac} {ps : List Nat} {v : Value} {xs : List Value} (h : Qn B W l ps v xs) (hb : B0 ≤ B) : Qn B0 W l ps v xs := ⟨h.own, fun g hg => Nat.le_trans hb (h.new g hg), fun j k q => by
  obtain ⟨a, c, h1, h2⟩ := h.each j k q
  exact ⟨a, c, h1, h2.le hb⟩⟩
/-- Places that are shown, with ways of whole digests. -/
def PsOk (l : List Ac) (ps : List Nat) : Prop := ∀ k ∈ ps, k < l.length ∧ ∀ m ∈ (pfOf l k).A, m.length = 32
set_option maxRecDepth 100000 in
set_option maxHeartbeats 16000000 in
theorem prove12f (w : World) (hl : Laid1 w) (h2 : 2 ≤ w.heap.size) (va vr : Value) (l : List Ac) (r : List Rl) (ha : As w va l) (hr : Rs w vr r) (b s : Nat) (hb : b < 18446744073709551616) (hs : s < 18446744073709551616) (x : Nat) (he : ledE b l r s = 0) (hA : Asc l) :
    Calls Tryz.prog 12 #[.agg (ldA va vr b s), .int .u64 x] w fun e w' => ∃ (c : Nat) (v1 v2 : Value), e = .returned (.tuple #[.agg (wtL (hashOf (restB b s r)) v1 v2).toArray, .int .i64 0]) ∧ c ≤ l.length ∧ Parts l x c c ∧ An w.heap.size w' l (shN l x c) v1 ∧ (∃ xs, Qn w.heap.size w' l (shN l x c) v2 xs) ∧ PsOk l (shN l x c) ∧ Turn no w w' := by
  obtain ⟨h1l, h1r⟩ := led_small he
  have oZ := one37w
  have iZ := info37w
  have hzv := zero37
  have iL := ld_info va vr b s
  have lR : (hashOf (restB b s r)).length = 32 := hashOf_len _
  have HWT := shut (wt_wt _ lR)
  have hbd := shut (fun W => bldW W _ lR)
  obtain ⟨w0, hw0⟩ : ∃ w0, (w.alloc (.cells (ldA va vr b s) 30)).alloc (.cells WZ 43) = w0 := ⟨_, rfl⟩
  have T0 : Turn no w w0 := by rw [← hw0]; exact ((Turn.refl no w).alloc _).alloc _
  have RL : Row w0 w.heap.size (ldA va vr b s) 30 := by rw [← hw0]; exact (Row.new w _ 30).alloc _
  have RZ : Row w0 (w.heap.size + 1) WZ 43 := by rw [← hw0]; exact Row.newAt _ _ _ _ (by simp)
  have hsd : Calls Tryz.prog 24 #[.agg (ldA va vr b s)] w0 fun e w' => e = .returned (.int .i64 0) ∧ Turn no w0 w' := by
    have := sound11 w0 va vr l r (ha.turn_no T0) (hr.turn_no T0) b s
    rwa [he] at this
  have HF : Shut (∀ W, Turn no w0 W → Calls Tryz.prog 43 #[va] W (Fs W l)) := fun W t => forms20 W va l (ha.turn_no (T0.then_no t)) h1l
  have HT : Shut (∀ W, Turn no w0 W → Calls Tryz.prog 42 #[.agg (ldA va vr b s)] W fun e w' => e = .returned (.agg (hb32 (hashOf (restB b s r)))) ∧ Turn no W w') := fun W t => rest22 W (hl.turn (T0.then_no t) (fun q => q)) (by have := (T0.then_no t).size; omega) va vr r (hr.turn_no (T0.then_no t)) h1r b s hb hs
  have HS : Shut (∀ W, Turn no w0 W → Calls Tryz.prog 44 #[va, .int .u64 x] W fun e w' => ∃ (c : Nat) (u : Value), e = .returned u ∧ c ≤ l.length ∧ Parts l x c c ∧ Pl W (shN l x c) u w') := fun W t => shown23 W va l (ha.turn_no (T0.then_no t)) hA h1l x
  obtain ⟨ada, capa, eva, hat⟩ := id ha
  have HAc : Shut (∀ W, Turn no w0 W → AsAt W ada capa l) := fun W t => hat.turn_no (T0.then_no t)
  have HOK : Shut ((∀ m ∈ l, m.ok) ∧ l.length ≤ 65536 ∧ Asc l) := ⟨hat.ok, h1l, hA⟩
  have HS02 : Shut (w0.heap.size = w.heap.size + 2) := by show _ = _; rw [← hw0]; simp
  clear hat
  have HPr : Shut (∀ W a ca its k, Turn no w0 W → BlAt W a ca its → txs its = forms l → k < l.length → Calls Tryz.prog 45 #[.slice a its.length ca, .int .i64 (k : Nat)] W (Pn W (pfOf l k))) := fun W a ca its k t B q hk => prove24 W (hl.turn (T0.then_no t) (fun q => q)) (by have := (T0.then_no t).size; omega) a ca its l k B q h1l hk
  have hv0 : (ldA va vr b s)[0]? = some va := rfl
  have HV0 := shut hv0
  clear ha hr hl h2 he hb hs lR
  generalize hb32 (hashOf (restB b s r)) = RH at *
  obtain ⟨WT, hWT⟩ : ∃ WT : Value → Value → Array Value, Shut (WT = fun a b' => (wtL (hashOf (restB b s r)) a b').toArray) := ⟨_, rfl⟩
  rw [← hWT.out] at HWT
  have hW0 : (wtL (hashOf (restB b s r)) (.slice none 0 0) (.slice none 0 0)).toArray = WT (.slice none 0 0) (.slice none 0 0) := by rw [hWT.out]
  rw [hW0] at hbd
  have iW := HWT.out.info (.slice none 0 0) (.slice none 0 0)
  have oW := HWT.out.one none 0 0 none 0 0
  have sW : WZ.size = (WT (.slice none 0 0) (.slice none 0 0)).size := (show WZ.size = 34 from by kernel_rfl).trans (HWT.out.size _ _).symm
  obtain ⟨W0, hW0e⟩ : ∃ W0, WT (.slice none 0 0) (.slice none 0 0) = W0 := ⟨_, rfl⟩
  rw [hW0e] at hbd iW oW sW
  have HW0 := shut hW0e
  clear hW0 hW0e
  have hZ : Shut (WZ.size = 34) := by show _ = _; kernel_rfl
  generalize WZ = Z at *
  generalize ldA va vr b s = LA at *
  subst eva
  generalize hnl : l.length = nl at *
  have HNL := shut hnl
  clear hnl
  have HT0 := shut T0
  go_enter Tryz.func12, Tryz.ntmps12
  go_upto_region 1 with fail
  try rw [hw0]
  clear hw0
  go_upto_region 4 with (first | (guard_target =~ wpList _ _ _ ({ dst := _, op := Op.load 30 _, .. } :: _) _ _; refine wpList_load_row rfl 30 (.tmp 2) rfl w.heap.size rfl 30 LA _ _ RL Tryz.underlying30 rfl iL ?_) | (go_at_call 24; refine hsd.mono ?_; clear hsd; rintro e w1 ⟨rfl, t1⟩; have RL1 := RL.turn t1 (fun q => q); have ht := HT.out w1 t1))
  go_upto_region 5 with (first | (guard_target =~ wpList _ _ _ ({ dst := _, op := Op.load 30 _, .. } :: _) _ _; refine wpList_load_row rfl 30 (.tmp 2) rfl w.heap.size rfl 30 LA _ _ RL1 Tryz.underlying30 rfl iL ?_) | (go_at_call 42; refine ht.mono ?_; clear ht; rintro e w2 ⟨rfl, t2⟩) | (guard_target =~ wpList _ _ _ ({ dst := _, op := Op.build 43 _, .. } :: _) _ _; refine wpList_build1 rfl 43 (.tmp 20) rfl _ rfl _ _ (hbd.out _) ?_) | (guard_target =~ wpList _ _ _ ({ dst := _, op := Op.store 43 _ _, .. } :: _) _ _; refine wpList_store_anyN rfl rfl 43 (.tmp 7) (.tmp 21) rfl _ W0 rfl rfl 43 Z (Row.new _ Z 43) iW sW oW ?_; intro w3 R3 t3))
  have T2 := t1.then_no t2
  have s2 := T2.size
  have s02 := HS02.out
  have T3 : Turn no w0 w3 := T2.trans ((((Turn.refl no w2).alloc (.cells Z 43)).of_no.trans t3 (fun _ _ e => e) : Turn (fun q => q = w2.heap.size) w2 w3).mono (fun i hi e => by
      have e' : i = w2.heap.size := e
      omega) : Turn no w2 w3) (fun _ _ q => q)
  have RL3 := RL.turn T3 (fun q => q)
  have RZ3 := RZ.turn T3 (fun q => q)
  have hf := HF.out w3 T3
  have x0 := RL3.cell 0 _ hv0
  clear RL1 t1 t2 t3 hbd iW oW sW T2 hv0
  go_upto_region 6 with (first | (go_at_call 43; refine hf.mono ?_; clear hf; rintro e w4 ⟨fa, fc, its, rfl, B4, q4, t4⟩))
  have T4 := T3.then_no t4
  have hsh := HS.out w4 T4
  have x0 := (RL3.turn t4 (fun q => q)).cell 0 _ HV0.out
  go_upto_region 7 with (first | (go_at_call 44; refine hsh.mono ?_; clear hsh; rintro e w5 ⟨c, u, rfl, hcn, hP, hPl⟩; obtain ⟨pa, pc, eu, hpa, hpn, hpcn, hpc⟩ := hPl.1.form; subst eu))
  have T5 := T4.then_no hPl.2.2
  have R5 := R3.turn (t4.then_no hPl.2.2) (fun q => q)
  have RL5 := RL3.turn (t4.then_no hPl.2.2) (fun q => q)
  have RZ5 := RZ3.turn (t4.then_no hPl.2.2) (fun q => q)
  generalize w2.heap.size = g at *
  have g2 : w.heap.size + 2 ≤ g := by omega
  have g5 : g < w5.heap.size := R5.lt
  have g3 : g < w3.heap.size := R3.lt
  have HPS : Shut ((shN l x c).length ≤ 2 ∧ (∀ k ∈ shN l x c, k < l.length) ∧ c ≤ l.length ∧ Parts l x c c) := ⟨shN_len l x c, shN_lt HOK.out.2.2 hP (by rw [HNL.out]; exact hcn), by rw [HNL.out]; exact hcn, hP⟩
  have HPL := shut hPl
  have HB4 : Shut (∀ W, Turn (fun q => q = g) w5 W → BlAt W fa fc its) := fun W t => B4 W ((((Turn.refl (fun q => q < w3.heap.size) w4).then_no hPl.2.2).trans t (fun i hi e => by have e' : i = g := e; show i < w3.heap.size; omega)))
  have HR5 := shut R5
  have HRL5 := shut RL5
  have HRZ5 := shut RZ5
  have HT5 := shut T5
  have HQ4 := shut q4
  generalize hn0 : (shN l x c).length = n at *
  have hn := shut hn0
  clear hn0
  have hn2 : n ≤ 2 := by have := HPS.out.1; omega
  have HG : Shut (w.heap.size + 2 ≤ g ∧ g < w5.heap.size ∧ n ≤ pc ∧ n ≤ 2 ∧ g < w4.heap.size) := ⟨g2, g5, hpcn, hn2, by have := t4.size; omega⟩
  have TW5 : Turn no w w5 := HT0.out.then_no T5
  have HTW5 := shut TW5
  clear R5 RL5 RZ5 T5 TW5 B4 q4 t4 T4 T3 R3 RL3 RZ3 RL RZ T0 x0 hP hPl hcn HS HF HT g2 g3 g5 s2 s02 hpa hpn hpc hn2 hpcn
  have hpl : n ≤ 9223372036854775807 := by have := HG.out; omega
  go_loopw [30] (fun y wr => ∃ (j : Nat), j ≤ n ∧ y = .int .i64 j ∧ Shut (∃ v1 v2 xs, An w5.heap.size wr l ((shN l x c).take j) v1 ∧ Qn w5.heap.size wr l ((shN l x c).take j) v2 xs ∧ Row wr g (WT v1 v2) 43 ∧ Turn (fun q => q = g) w5 wr)) (fun y _ => n - (intOf y).toNat)
  case atStart => exact ⟨0, by omega, rfl, ⟨_, _, [], An.nil _ _ _, Qn.nil _ _ _, by rw [HW0.out]; exact HR5.out, Turn.refl _ _⟩⟩
  case round =>
    obtain ⟨j, hj, rfl, HI⟩ := hrel
    obtain ⟨v1, v2, xs, IA, IQ, IR, IT⟩ := HI.out
    clear HI
    by_cases hlt : j < n
    · have hlt' : (j : Int) < (n : Int) := by omega
      obtain ⟨k, hk⟩ : ∃ k, (shN l x c)[j]? = some k := ⟨(shN l x c)[j]'(by rw [hn.out]; exact hlt), List.getElem?_eq_getElem _⟩
      have hkl := HPS.out.2.1 k (List.mem_of_getElem? hk)
      have hG := HG.out
      have hIs := IT.size
      have OP := HPL.out.1.turn IT (fun g' hg' e => by have := HPL.out.2.1 g' hg'; have e' : g' = g := e; omega)
      rw [hn.out] at OP
      obtain ⟨gp, egp⟩ : ∃ gp, pa = some ⟨gp, 0, none⟩ := by
        rcases OP.2 with ⟨q1, q2⟩ | ⟨gp, pcap, cur, ep, _⟩
        · omega
        · cases ep; exact ⟨gp, rfl⟩
      subst egp
      have cp : wr.cell? ⟨gp, j, none⟩ = some (.int .i64 (k : Int)) := by
        have := World.ownsRow.cells OP (g := gp) rfl j (.int .i64 (k : Int)) (by simp [plC, hk])
        simpa [Addr.add_lit] using this
      have s02 := HS02.out
      have s5 := HT5.out.size
      have TR : Turn no w0 wr := HT5.out.trans IT (fun i hi e => by have e' : i = g := e; omega)
      have hpr := HPr.out wr fa fc its k TR (HB4.out wr IT) HQ4.out (by rw [← HNL.out]; exact hkl)
      have RLr := HRL5.out.turn IT (fun e => by have e' : w.heap.size = g := e; omega)
      obtain ⟨a1, m1, c1, e1⟩ : ∃ a n c, v1 = .slice a n c := by obtain ⟨a, c, e, _⟩ := IA.own.form; exact ⟨a, _, c, e⟩
      obtain ⟨a2, m2, c2, e2⟩ : ∃ a n c, v2 = .slice a n c := by obtain ⟨a, c, e, _⟩ := IQ.own.form; exact ⟨a, _, c, e⟩
      subst e1
      subst e2
      have hml : ((shN l x c).take j).length = j := by rw [List.length_take, hn.out]; omega
      have HKJ : Shut ((shN l x c).take (j + 1) = (shN l x c).take j ++ [k]) := by show _ = _; rw [List.take_add_one, hk]; rfl
      have HML := shut hml
      have HKL := shut hkl
      have HPC := hG.2.2.1
      clear OP hml hkl hk
      go_upto_region 10 with (first | (go_at_call 45; refine hpr.mono ?_; clear hpr; rintro e w6 ⟨v3, rfl, O3, f3, t6⟩; obtain ⟨a3, c3, e3, -⟩ := O3.form; subst e3) | (guard_target =~ wpList _ _ _ ({ dst := _, op := Op.store 53 _ _, .. } :: _) _ _; refine wpList_store_anyN rfl rfl 53 (.tmp 11) (.tmp 38) rfl _ (pfC (pfOf l k) a3 c3).toArray rfl rfl 53 #[.int .i64 0, .int .i64 0, .slice none 0 0] (Row.new _ _ 53) (pf_info l k a3 c3) rfl (pf_one l k a3 c3) ?_; intro w8 R8 t8))
      have t68 : Turn no w6 w8 := ((((Turn.refl no w6).alloc _).of_no.trans t8 (fun _ _ e => e) : Turn (fun q => q = w6.heap.size) w6 w8).mono (fun i hi e => by
        have e' : i = w6.heap.size := e
        omega))
      have T8 : Turn no wr w8 := t6.then_no t68
      have T08 := TR.then_no T8
      have RW8 := IR.turn T8 (fun q => q)
      have A8 := IA.turn T8 (fun _ _ q => q)
      have Q8 := IQ.turn T8 (fun _ _ q => q)
      have H8 : Hn w5.heap.size w8 (pfOf l k).A a3 c3 := ⟨O3.turn_no t68, fun g' hg' => by have := f3 g' hg'; omega⟩
      have RL8 := RLr.turn T8 (fun q => q)
      have g86 : w5.heap.size ≤ w6.heap.size := by have := t6.size; omega
      have hm : l[k]? = some (l.getD k ac0) := by rw [List.getD_eq_getElem?_getD, List.getElem?_eq_getElem HKL.out]; rfl
      obtain ⟨b, off, eb, rng⟩ := (HAc.out w0 (Turn.refl no w0)).range k _ hm
      subst eb
      have hb0 : b < w0.heap.size := by
        have c0 := rng 0 (.int .u64 (l.getD k ac0).ad) rfl
        rcases Nat.lt_or_ge b w0.heap.size with q | q
        · exact q
        · rw [show w0.cell? ⟨b, off + k * 5 + 0, none⟩ = none by simp [World.cell?, Array.getElem?_eq_none q]] at c0
          cases c0
      have hkn : k < nl := by rw [← HNL.out]; exact HKL.out
      have hcap : nl ≤ capa := by rw [← HNL.out]; exact (HAc.out w0 (Turn.refl no w0)).le
      have HLD : Shut (∀ W, Turn (fun q => q = g ∨ (Value.slice a1 m1 c1).ownBlock = some q) w8 W → W.cell? ⟨w.heap.size, 0, none⟩ = some (.slice (some ⟨b, off, none⟩) nl capa) ∧ W.rangeAt b (off + k * 5) (acs (l.getD k ac0))) := fun W t => ⟨t.keep (RL8.cell 0 _ HV0.out) (fun e => by
          rcases e with e | e
          · have e' : w.heap.size = g := e
            omega
          · have := A8.new _ e
            have e' : w5.heap.size ≤ w.heap.size := this
            omega), fun i u hu => t.keep (T08.keep (rng i u hu) (fun q => q)) (fun e => by
          rcases e with e | e
          · have e' : b = g := e
            omega
          · have := A8.new _ e
            have e' : w5.heap.size ≤ b := this
            omega)⟩
      have HBS : Shut (∀ W, (Instr.buildSlice 22 1 #[(0, .agg (acs (l.getD k ac0)).toArray)]).run Tryz.prog W = .ok (.slice (some ⟨W.heap.size, 0, none⟩) 1 1) (W.alloc (.cells (acs (l.getD k ac0)).toArray 50))) := fun W => bslA W _
      have HIA := shut (ac_info (l.getD k ac0))
      clear hm rng t6 t8 IA IQ IR O3 f3 RLr TR
      go_upto_region 12 with fail
      refine wp_region_held_drew (S := fun W => Turn (fun q => q = g ∨ (Value.slice a1 m1 c1).ownBlock = some q) w8 W) (by kernel_rfl) (Turn.refl _ w8).drew (fun hHeld => ?_)
      obtain ⟨X0, hX0⟩ : ∃ X, w8.drew = X := ⟨_, rfl⟩
      have tX : Turn no w8 X0 := by rw [← hX0]; exact (Turn.refl no w8).drew
      rw [hX0] at hHeld ⊢
      clear hX0
      have AX := A8.turn tX (fun _ _ q => q)
      have QX := Q8.turn tX (fun _ _ q => q)
      have HX := H8.turn tX (fun _ _ q => q)
      have RX := RW8.turn tX (fun q => q)
      have R8X := R8.turn tX (fun q => q)
      have hBX : w5.heap.size ≤ X0.heap.size := by have := tX.size; have := T8.size; omega
      obtain ⟨n1, w9, r9, A9, t9, e9⟩ := AX.push hBX (by rw [HML.out]; omega) k
      obtain ⟨a9, m9, c9, e9⟩ : ∃ a n c, n1 = .slice a n c := by obtain ⟨a, c, e⟩ := e9; exact ⟨a, _, c, e⟩
      subst e9
      have xa : X0.cell? ⟨g, 32, none⟩ = some (.slice a1 m1 c1) := RX.cell 32 _ (HWT.out.v1 _ _)
      have xb : (X0.alloc (.cells (acs (l.getD k ac0)).toArray 50)).cell? ⟨g, 32, none⟩ = some (.slice a1 m1 c1) := (RX.alloc _).cell 32 _ (HWT.out.v1 _ _)
      have R9 := RX.turn t9 (fun e => own_neR AX.own RX (by decide) g e rfl)
      have R89 := R8X.turn t9 (fun e => own_neR AX.own R8X (by decide) _ e rfl)
      have Q9 := QX.aside AX.own (by decide) (by decide) t9
      have H9 := HX.aside AX.own (by decide) t9
      have xc : w9.cell? ⟨g, 32, none⟩ = some (.slice a1 m1 c1) := R9.cell 32 _ (HWT.out.v1 _ _)
      have xf := R9.frozen 32
      have S9 : Turn (fun q => q = g ∨ (Value.slice a1 m1 c1).ownBlock = some q) w8 w9 := hHeld.trans t9 (fun i _ e => .inr e)
      have S10 := S9.setCell (p := ⟨g, 32, none⟩) (fun _ => .inl rfl) (.slice a9 m9 c9)
      have HS9 := shut S9
      have HS10 := shut S10
      have HR9 := shut r9
      have SX : Turn (fun q => q = g ∨ (Value.slice a1 m1 c1).ownBlock = some q) w8 (X0.alloc (.cells (acs (l.getD k ac0)).toArray 50)) := hHeld.alloc _
      have HSX := shut SX
      have TG := (Turn.refl (fun q => q = g) w9).setCell (p := ⟨g, 32, none⟩) (fun _ => rfl) (.slice a9 m9 c9)
      have R10 : Row (w9.setCell ⟨g, 32, none⟩ (.slice a9 m9 c9)) g (WT (.slice a9 m9 c9) (.slice a2 m2 c2)) 43 := by
        have := R9.set 32 (.slice a9 m9 c9)
        rwa [HWT.out.s1] at this
      have R810 := R89.turn TG (fun e => by have e' : w6.heap.size = g := e; omega)
      have A10 := A9.turn TG (fun i hi e => by have e' : i = g := e; omega)
      have Q10 := Q9.turn TG (fun i hi e => by have e' : i = g := e; omega)
      have H10 := H9.turn TG (fun i hi e => by have e' : i = g := e; omega)
      have T510 : Turn (fun q => q = g) w5 (w9.setCell ⟨g, 32, none⟩ (.slice a9 m9 c9)) := ((IT.then_no T8).then_no tX).trans ((t9.mono (fun i _ e => Or.inl e) : Turn (fun q => (Value.slice a1 m1 c1).ownBlock = some q ∨ q = g) X0 w9).trans TG (fun i _ e => Or.inr e)) (fun i hi e => by
        rcases e with e | e
        · have := AX.new _ e
          omega
        · exact e)
      have HAT := shut (And.intro R10 (And.intro R810 (And.intro A10 (And.intro Q10 (And.intro H10 T510)))))
      have hkn' : (k : Int) < (nl : Int) := by omega
      have hkc' : (k : Int) < (capa : Int) := by omega
      clear AX QX HX RX R8X R9 R89 Q9 H9 A9 t9 S9 S10 SX TG R10 R810 A10 Q10 H10 T510 A8 Q8 H8 RW8 R8 RL8 hBX tX IT T8 T08 r9
      generalize acs (l.getD k ac0) = AM at *
      refine' wpAnyH_take (i := 0) (v := .pointer (some ⟨g, 32, none⟩)) rfl (by kernel_rfl) (by kernel_rfl) (by kernel_rfl) (fun _ _ _ h => h) (Or.inl ⟨by kernel_rfl, fun W hW => ?y1⟩) hHeld ?r1
      · go_simp
      refine' wpAnyH_take (i := 2) (v := .pointer (some ⟨w.heap.size, 0, none⟩)) rfl (by kernel_rfl) (by kernel_rfl) (by kernel_rfl) (fun _ _ _ h => h) (Or.inl ⟨by kernel_rfl, fun W hW => ?y2⟩) hHeld ?r2
      · go_simp
      refine' wpAnyH_take (i := 3) (v := .slice (some ⟨b, off, none⟩) nl capa) rfl (by kernel_rfl) (by kernel_rfl) (by kernel_rfl) (fun _ _ _ h => h) (Or.inl ⟨by kernel_rfl, fun W hW => ?y3⟩) hHeld ?r3
      · have cc := (HLD.out W hW).1
        go_simp
      refine' wpAnyH_take (i := 4) (v := .int .i64 k) rfl (by kernel_rfl) (by kernel_rfl) (by kernel_rfl) (fun _ _ _ h => h) (Or.inl ⟨by kernel_rfl, fun W hW => ?y4⟩) hHeld ?r4
      · go_simp
      refine' wpAnyH_take (i := 5) (v := .pointer (some ⟨b, off + k * 5, none⟩)) rfl (by kernel_rfl) (by kernel_rfl) (by kernel_rfl) (fun _ _ _ h => h) (Or.inl ⟨by kernel_rfl, fun W hW => ?y5⟩) hHeld ?r5
      · go_simp
      refine' wpAnyH_take (i := 6) (v := .agg AM.toArray) rfl (by kernel_rfl) (by kernel_rfl) (by kernel_rfl) (fun _ _ _ h => h) (yieldsIf_load_mid (by kernel_rfl) 50 (.tmp 49) rfl b (off + k * 5) (by go_simp) AM _ (fun W h => (HLD.out W h).2) Tryz.underlying50 rfl HIA.out) hHeld ?s6
      refine wpAnyH_ready (rs := [1, 7]) (by kernel_rfl) (by simp) ?_
      refine AllReadyH.cons rfl (fun K hK => ?_) (AllReadyH.cons rfl (fun K hK => ?_) AllReadyH.nil)
      · go_simp
        refine hK.out _ _ hHeld (fun hHeld => ?_)
        clear hK
        refine wpAnyH_ready (rs := [7]) (by kernel_rfl) (by simp) ?_
        refine AllReadyH.cons rfl (fun K hK => ?_) AllReadyH.nil
        rw [if_pos (by kernel_rfl)]
        refine wp_bslice1 22 _ rfl _ rfl (HBS.out _) ?_
        refine hK.out _ _ HSX.out (fun hHeld => ?_)
        clear hK
        refine wpAnyH_ready (rs := [8]) (by kernel_rfl) (by simp) ?_
        refine AllReadyH.cons rfl (fun K hK => ?_) AllReadyH.nil
        rw [if_pos (by kernel_rfl)]
        refine wp_append_runT _ _ rfl rfl (.slice a1 m1 c1) (.slice (some ⟨X0.heap.size, 0, none⟩) 1 1) (by go_simp) (by go_simp) HR9.out ?_
        refine hK.out _ _ HS9.out (fun hHeld => ?_)
        clear hK
        refine' wpAnyH_take (i := 9) (v := .pointer (some ⟨g, 32, none⟩)) rfl (by kernel_rfl) (by kernel_rfl) (by kernel_rfl) (fun _ _ _ h => h) (Or.inl ⟨by kernel_rfl, fun W hW => ?y6⟩) hHeld ?r6
        · go_simp
        refine wpAnyH_ready (rs := [10]) (by kernel_rfl) (by simp) ?_
        refine AllReadyH.cons rfl (fun K hK => ?_) AllReadyH.nil
        go_simp
        refine hK.out _ _ HS10.out (fun hHeld => ?_)
        clear hK
        refine wpAnyH_done (by kernel_rfl) ?_ _
        clear xa xb xc xf HS9 HS10 HR9 HSX HLD HBS HIA hHeld
        obtain ⟨R10, R810, A10, Q10, H10, T510⟩ := HAT.out
        clear HAT
        obtain ⟨w10, hw10⟩ : ∃ X, w9.setCell ⟨g, 32, none⟩ (.slice a9 m9 c9) = X := ⟨_, rfl⟩
        rw [hw10] at R10 R810 A10 Q10 H10 T510 ⊢
        clear hw10
        have s510 := T510.size
        obtain ⟨n2, w11, r11, Q11, t11, e11⟩ := Q10.push (by omega) (by rw [HML.out]; omega) k H10
        obtain ⟨aB, mB, cB, e11⟩ : ∃ a n c, n2 = .slice a n c := by obtain ⟨a, c, e⟩ := e11; exact ⟨a, _, c, e⟩
        subst e11
        have y0 := R10.cell 33 _ (HWT.out.v2 _ _)
        have R11 := R10.turn t11 (fun e => own_neR Q10.own R10 (by decide) g e rfl)
        have y1 := R11.cell 33 _ (HWT.out.v2 _ _)
        have yf := R11.frozen 33
        have TG := (Turn.refl (fun q => q = g) w11).setCell (p := ⟨g, 33, none⟩) (fun _ => rfl) (.slice aB mB cB)
        have HN : Shut (∃ v1 v2 xs, An w5.heap.size (w11.setCell ⟨g, 33, none⟩ (.slice aB mB cB)) l ((shN l x c).take (j + 1)) v1 ∧ Qn w5.heap.size (w11.setCell ⟨g, 33, none⟩ (.slice aB mB cB)) l ((shN l x c).take (j + 1)) v2 xs ∧ Row (w11.setCell ⟨g, 33, none⟩ (.slice aB mB cB)) g (WT v1 v2) 43 ∧ Turn (fun q => q = g) w5 (w11.setCell ⟨g, 33, none⟩ (.slice aB mB cB))) := shut (by
          rw [HKJ.out]
          refine ⟨.slice a9 m9 c9, .slice aB mB cB, _, (A10.aside Q10.own (by decide) t11).turn TG (fun i hi e => by have e' : i = g := e; omega), Q11.turn TG (fun i hi e => by have e' : i = g := e; omega), ?_, T510.trans ((t11.mono (fun i _ e => Or.inl e) : Turn (fun q => (Value.slice a2 m2 c2).ownBlock = some q ∨ q = g) w10 w11).trans TG (fun i _ e => Or.inr e)) (fun i hi e => by
            rcases e with e | e
            · have := Q10.new _ e
              omega
            · exact e)⟩
          have := R11.set 33 (.slice aB mB cB)
          rwa [HWT.out.s2] at this)
        have HPI := shut (pf_info l k a3 c3)
        have HBP : Shut (∀ W, (Instr.buildSlice 41 1 #[(0, .agg (pfC (pfOf l k) a3 c3).toArray)]).run Tryz.prog W = .ok (.slice (some ⟨W.heap.size, 0, none⟩) 1 1) (W.alloc (.cells (pfC (pfOf l k) a3 c3).toArray 53))) := fun W => bslP W _ _ _
        clear R10 A10 Q10 H10 T510 Q11 t11 R11 TG HKJ
        generalize (pfC (pfOf l k) a3 c3).toArray = PC at *
        go_upto_region 14 with (first | (guard_target =~ wpList _ _ _ ({ dst := _, op := Op.load 53 _, .. } :: _) _ _; refine wpList_load_row rfl 53 (.tmp 11) rfl w6.heap.size rfl 53 PC _ _ R810 Tryz.underlying53 rfl HPI.out ?_) | (guard_target =~ wpList _ _ _ ({ dst := _, op := Op.buildSlice _ _ _, .. } :: _) _ _; refine wpList_bslice1 rfl 41 (.tmp 56) rfl _ rfl _ _ (HBP.out _) ?_) | (guard_target =~ wpList _ _ _ ({ dst := some 58, op := Op.call _, .. } :: _) _ _; at_builtin; refine wpList_append_run rfl (.tmp 55) (.tmp 57) rfl _ _ rfl rfl r11 ?_))
        clear r11 y0 y1 yf R810
        go_wp2_with fail
        go_roundw
        case rel => exact ⟨j + 1, by omega, by go_num, HN⟩
        case measure => simp [intOf]; omega
      · rw [if_pos (by kernel_rfl)]
        refine wp_bslice1 22 _ rfl _ rfl (HBS.out _) ?_
        refine hK.out _ _ HSX.out (fun hHeld => ?_)
        clear hK
        refine wpAnyH_ready (rs := [1]) (by kernel_rfl) (by simp) ?_
        refine AllReadyH.cons rfl (fun K hK => ?_) AllReadyH.nil
        go_simp
        refine hK.out _ _ HSX.out (fun hHeld => ?_)
        clear hK
        refine wpAnyH_ready (rs := [8]) (by kernel_rfl) (by simp) ?_
        refine AllReadyH.cons rfl (fun K hK => ?_) AllReadyH.nil
        rw [if_pos (by kernel_rfl)]
        refine wp_append_runT _ _ rfl rfl (.slice a1 m1 c1) (.slice (some ⟨X0.heap.size, 0, none⟩) 1 1) (by go_simp) (by go_simp) HR9.out ?_
        refine hK.out _ _ HS9.out (fun hHeld => ?_)
        clear hK
        refine' wpAnyH_take (i := 9) (v := .pointer (some ⟨g, 32, none⟩)) rfl (by kernel_rfl) (by kernel_rfl) (by kernel_rfl) (fun _ _ _ h => h) (Or.inl ⟨by kernel_rfl, fun W hW => ?y7⟩) hHeld ?r7
        · go_simp
        refine wpAnyH_ready (rs := [10]) (by kernel_rfl) (by simp) ?_
        refine AllReadyH.cons rfl (fun K hK => ?_) AllReadyH.nil
        go_simp
        refine hK.out _ _ HS10.out (fun hHeld => ?_)
        clear hK
        refine wpAnyH_done (by kernel_rfl) ?_ _
        clear xa xb xc xf HS9 HS10 HR9 HSX HLD HBS HIA hHeld
        obtain ⟨R10, R810, A10, Q10, H10, T510⟩ := HAT.out
        clear HAT
        obtain ⟨w10, hw10⟩ : ∃ X, w9.setCell ⟨g, 32, none⟩ (.slice a9 m9 c9) = X := ⟨_, rfl⟩
        rw [hw10] at R10 R810 A10 Q10 H10 T510 ⊢
        clear hw10
        have s510 := T510.size
        obtain ⟨n2, w11, r11, Q11, t11, e11⟩ := Q10.push (by omega) (by rw [HML.out]; omega) k H10
        obtain ⟨aB, mB, cB, e11⟩ : ∃ a n c, n2 = .slice a n c := by obtain ⟨a, c, e⟩ := e11; exact ⟨a, _, c, e⟩
        subst e11
        have y0 := R10.cell 33 _ (HWT.out.v2 _ _)
        have R11 := R10.turn t11 (fun e => own_neR Q10.own R10 (by decide) g e rfl)
        have y1 := R11.cell 33 _ (HWT.out.v2 _ _)
        have yf := R11.frozen 33
        have TG := (Turn.refl (fun q => q = g) w11).setCell (p := ⟨g, 33, none⟩) (fun _ => rfl) (.slice aB mB cB)
        have HN : Shut (∃ v1 v2 xs, An w5.heap.size (w11.setCell ⟨g, 33, none⟩ (.slice aB mB cB)) l ((shN l x c).take (j + 1)) v1 ∧ Qn w5.heap.size (w11.setCell ⟨g, 33, none⟩ (.slice aB mB cB)) l ((shN l x c).take (j + 1)) v2 xs ∧ Row (w11.setCell ⟨g, 33, none⟩ (.slice aB mB cB)) g (WT v1 v2) 43 ∧ Turn (fun q => q = g) w5 (w11.setCell ⟨g, 33, none⟩ (.slice aB mB cB))) := shut (by
          rw [HKJ.out]
          refine ⟨.slice a9 m9 c9, .slice aB mB cB, _, (A10.aside Q10.own (by decide) t11).turn TG (fun i hi e => by have e' : i = g := e; omega), Q11.turn TG (fun i hi e => by have e' : i = g := e; omega), ?_, T510.trans ((t11.mono (fun i _ e => Or.inl e) : Turn (fun q => (Value.slice a2 m2 c2).ownBlock = some q ∨ q = g) w10 w11).trans TG (fun i _ e => Or.inr e)) (fun i hi e => by
            rcases e with e | e
            · have := Q10.new _ e
              omega
            · exact e)⟩
          have := R11.set 33 (.slice aB mB cB)
          rwa [HWT.out.s2] at this)
        have HPI := shut (pf_info l k a3 c3)
        have HBP : Shut (∀ W, (Instr.buildSlice 41 1 #[(0, .agg (pfC (pfOf l k) a3 c3).toArray)]).run Tryz.prog W = .ok (.slice (some ⟨W.heap.size, 0, none⟩) 1 1) (W.alloc (.cells (pfC (pfOf l k) a3 c3).toArray 53))) := fun W => bslP W _ _ _
        clear R10 A10 Q10 H10 T510 Q11 t11 R11 TG HKJ
        generalize (pfC (pfOf l k) a3 c3).toArray = PC at *
        go_upto_region 14 with (first | (guard_target =~ wpList _ _ _ ({ dst := _, op := Op.load 53 _, .. } :: _) _ _; refine wpList_load_row rfl 53 (.tmp 11) rfl w6.heap.size rfl 53 PC _ _ R810 Tryz.underlying53 rfl HPI.out ?_) | (guard_target =~ wpList _ _ _ ({ dst := _, op := Op.buildSlice _ _ _, .. } :: _) _ _; refine wpList_bslice1 rfl 41 (.tmp 56) rfl _ rfl _ _ (HBP.out _) ?_) | (guard_target =~ wpList _ _ _ ({ dst := some 58, op := Op.call _, .. } :: _) _ _; at_builtin; refine wpList_append_run rfl (.tmp 55) (.tmp 57) rfl _ _ rfl rfl r11 ?_))
        clear r11 y0 y1 yf R810
        go_wp2_with fail
        go_roundw
        case rel => exact ⟨j + 1, by omega, by go_num, HN⟩
        case measure => simp [intOf]; omega
    · have hlt' : ¬ (j : Int) < (n : Int) := by omega
      have e : (shN l x c).take j = shN l x c := List.take_of_length_le (by rw [hn.out]; omega)
      rw [e] at IA IQ
      have hG := HG.out
      have RZr := HRZ5.out.turn IT (fun e => by have e' : w.heap.size + 1 = g := e; omega)
      have hV : (WT v1 v2).all (·.oneCell') = true := by
        obtain ⟨a1, c1, e1, _⟩ := IA.own.form
        obtain ⟨a2, c2, e2, _⟩ := IQ.own.form
        rw [e1, e2]
        exact HWT.out.one _ _ _ _ _ _
      have iV := HWT.out.info v1 v2
      have sV : Z.size = (WT v1 v2).size := by rw [HWT.out.size, hZ.out]
      have TWr := HTW5.out.trans IT (fun i hi e => by have e' : i = g := e; omega)
      have hwr := TWr.size
      obtain ⟨WV, hWV⟩ : ∃ WV, Shut (WT v1 v2 = WV) := ⟨_, rfl⟩
      have TF := (Turn.refl (fun q => q = w.heap.size + 1) wr).setRow (w.heap.size + 1) WV (fun _ => rfl)
      have HEnd : Shut (c ≤ nl ∧ Parts l x c c ∧ An w.heap.size (wr.setRow (w.heap.size + 1) WV) l (shN l x c) v1 ∧ (∃ xs, Qn w.heap.size (wr.setRow (w.heap.size + 1) WV) l (shN l x c) v2 xs) ∧ PsOk l (shN l x c) ∧ Turn no w (wr.setRow (w.heap.size + 1) WV)) := by
        refine shut ⟨by rw [← HNL.out]; exact HPS.out.2.2.1, HPS.out.2.2.2, (IA.turn TF (fun i hi e => by have e' : i = w.heap.size + 1 := e; omega)).le HTW5.out.size, ⟨_, (IQ.turn TF (fun i hi e => by have e' : i = w.heap.size + 1 := e; omega)).le HTW5.out.size⟩, (fun k hk => ⟨HPS.out.2.1 k hk, wayH_all l.length (forms l) k (forms_len l) (by have := HPS.out.2.1 k hk; omega) (HPS.out.2.1 k hk)⟩), TWr.setRow _ _ (fun q => by omega)⟩
      rw [hWV.out] at hV iV sV IR
      clear IA IQ TF TWr hwr
      go_wp2_with (first | (guard_target =~ wpList _ _ _ ({ dst := _, op := Op.load 43 _, .. } :: _) _ _; refine wpList_load_row rfl 43 (.tmp 7) rfl g rfl 43 WV _ _ IR Tryz.underlying43 rfl iV ?_) | (guard_target =~ wpList _ _ _ ({ dst := _, op := Op.store 43 _ _, .. } :: _) _ _; refine wpList_store_row rfl 43 (.tmp 4) (.tmp 61) rfl (w.heap.size + 1) WV rfl rfl 43 Z RZr iV sV hV ?_))
      refine bodyPost_ret (v := .tuple #[.agg WV, .int .i64 0]) ?_ rfl ⟨c, v1, v2, by rw [← hWV.out, hWT.out], HEnd.out⟩
      exact results_cell_row_tmp (P := Tryz.prog) Tryz.results12 _ _ (w.heap.size + 1) 43 WV (0, 0) _ rfl (setRow_heap _ _ _ _ _ _ RZr) Tryz.underlying43 rfl iV
end Go.Proofs.YtaoigopjfelgpaaGreatDoor
