/- CodecReads: the walk. -/
import Derived.Test.YtfjdojodbhmmaaaY11
import Derived.Test.YtfjdojodbhmmaaaRoomW
import Derived.Deep.MidRow
import Derived.Deep.RegionHeld
namespace Go.Proofs.Ytfjdojodbhmmaaa
open Go.RowKit
set_option linter.unusedVariables false

theorem Lent.turn_no {w w' : World} {v : Value} {bs : List UInt8} (h : Lent w v bs) (t : Turn no w w') : Lent w' v bs := by
  obtain ⟨g, cap, cur, e, hg, r⟩ := h
  exact ⟨g, cap, cur, e, t.obj hg (fun q => q), r⟩
theorem rgets_le (bs : List UInt8) (i : Nat) (e k a b : Int) : (rgets bs i e k a b).2.1.length ≤ bs.length := by
  unfold rgets
  split
  · by_cases hi : i ≤ bs.length
    · have := (rget_room bs i hi k a b).1; omega
    · have hby : ∀ m, (rbytes bs i m).1.length ≤ bs.length := rbytes_le bs i
      unfold rget
      split; · simp
      split; · simp
      split; · simp
      split; · simp
      split; · simp
      split
      · unfold rraw
        split; · simp
        split; · simp
        simp
        omega
      split; · exact hby a
      split; · exact hby a
      simp
  · simp
set_option maxRecDepth 100000 in
set_option maxHeartbeats 8000000 in
theorem reads8 (w : World) (vb : Value) (B : List UInt8) (hb : Bs w vb B) (va : Option Addr) (cap : Nat) (gs : List (Int × Int × Int)) (hgs : Gs w (.slice va gs.length cap) gs) (hB : B.length ≤ 140737488351232) (hL : gs.length ≤ 5864062014634) :
    Calls Try.prog 8 #[vb, .slice va gs.length cap] w fun e w' => e = .returned (.bool true) ∧ Turn no w w' := by
  have hat := hgs.at
  obtain ⟨L, hLe⟩ : ∃ L, gs.length = L := ⟨_, rfl⟩
  have hvb := hb.slice
  rw [hLe] at hat hL ⊢
  have HG := shutX (And.intro hat hLe)
  have HB := shutX (And.intro hb hB)
  clear hat hLe hgs
  have C29 := lent_any w vb B hb (by omega)
  obtain ⟨ab, cb, rfl⟩ := hvb
  obtain ⟨nB, hnB⟩ : ∃ n, B.length = n := ⟨_, rfl⟩
  rw [hnB] at C29 HB ⊢
  clear hb hB
  have HL := shutX hL
  clear hL
  go_enter Try.func8, Try.ntmps8
  go_upto_region 2 with (go_at_call 29; refine C29.mono ?_; rintro e w1 ⟨vl, gl, rfl, lent1, ol, nl, t1⟩; have bl1 := lent1.bs; obtain ⟨la, ll, lc, hvl⟩ : ∃ a l c, vl = .slice a l c := (by obtain ⟨x, y, e⟩ := bl1.slice; exact ⟨x, _, y, e⟩); subst hvl)
  have C14 := newReader_any w1 _ B bl1 (by rw [hnB]; have := HB.out.2; omega)
  go_upto_region 3 with (go_at_call 14; refine C14.mono ?_; rintro e w2 ⟨p0, v0, rfl, R0, f0, t2⟩)
  have tw2 := t1.then_no t2
  have C30 := left_turned w2 _ _ B gl (lent1.turn_no t2) ol (HB.out.1.turn_no tw2) (by rw [hnB]; have := HB.out.2; omega)
  clear C14
  go_upto_region 5 with (go_at_call 30; refine C30.mono ?_; rintro e w3 ⟨rfl, t3, cs, bcs, hcs⟩)
  clear C30
  have hgl1 : gl < w1.heap.size := by
    obtain ⟨g, c, cur, e, hg, _⟩ := lent1
    rw [e] at ol
    cases ol
    exact lt_of_obj hg
  have R0b := R0.turn t3 (fun g hg q => by have := f0 g hg; omega)
  have tw3 : Turn no w w3 := tw2.trans t3 (fun i hi q => by omega)
  have HS5 := shutX ((bcs.turn_no ((Turn.refl no w3).alloc (.cells #[] 5))).src (P := Try.prog) Try.underlying25)
  have hcl : cs.length = nB := by rw [hcs, hnB]
  rw [hcl] at HS5
  go_upto_region 6 with (at_builtin; refine wpList_append_src rfl (.tmp 25) (.tmp 26) rfl Try.underlying25 Try.info5 rfl _ [] rfl (own_empty w3 5) _ nB (cs.map bv) rfl HS5.out (by have := HB.out.2; simp; omega) (by have := HB.out.2; simp [maxLen]; omega) ?_; intro vo w4 o4 g4 _; have F4 := (fr_empty w3).append (ys := cs) (Turn.refl _ _) o4 g4; obtain ⟨oa, ol4, oc, hvo⟩ := o4.form; subst hvo; clear o4 g4)
  rw [List.nil_append] at F4
  have C14b := newReader_any w4 _ cs (bcs.turn_no F4.turn) (by rw [hcl]; have := HB.out.2; omega)
  go_upto_region 7 with (go_at_call 14; refine C14b.mono ?_; rintro e w5 ⟨p1, v1, rfl, R1, f1, t5⟩)
  clear C14b
  have tw5 := (tw3.then_no F4.turn).then_no t5
  have C31 := new31 w5 _ B (HB.out.1.turn_no tw5) (by rw [hnB]; have := HB.out.2; omega)
  go_upto_region 8 with (go_at_call 31; refine C31.mono ?_; rintro e w6 ⟨q0, u0, rfl, K0, f2, t6⟩)
  clear C31
  have C31b := new31 w6 _ cs ((F4.own.bs.turn_no t5).turn_no t6) (by rw [hcl]; have := HB.out.2; omega)
  go_upto_region 9 with (go_at_call 31; refine C31b.mono ?_; rintro e w7 ⟨q1, u1, rfl, K1, f3, t7⟩)
  clear C31b
  have t37 := (F4.turn.then_no t5).then_no (t6.then_no t7)
  have C32 := stands32 w7 p0 q0 v0 u0 B 0 0 (R0b.turn_no t37) (K0.turn_no t7) (by rw [hnB]; have := HB.out.2; omega)
  have C32b := fun W (t : Turn no w7 W) => stands32 W p1 q1 v1 u1 cs 0 0 (R1.turn_no ((t6.then_no t7).then_no t)) (K1.turn_no t) (by rw [hcl]; have := HB.out.2; omega)
  have HH := shutX (And.intro C32 C32b)
  clear C32 C32b
  go_upto_region 11 with (first | (go_at_call 32; refine HH.out.1.mono ?_; rintro e w8 ⟨rfl, t8⟩; have H2 := shutX (HH.out.2 w8 t8); clear HH) | (go_at_call 32; refine H2.out.mono ?_; rintro e w9 ⟨rfl, t9⟩))
  have t79 := t8.then_no t9
  have S0 : Rs w (w9.alloc (.cells #[.slice none 0 0, .slice none 0 0, .slice none 0 0, .slice none 0 0] 58)) (Q4 p0 p1 q0 q1) w9.heap.size (Q2 B cs) 0 := by
    have ta : Turn no w9 (w9.alloc (.cells #[.slice none 0 0, .slice none 0 0, .slice none 0 0, .slice none 0 0] 58)) := (Turn.refl no w9).alloc _
    have s1 := t1.size; have s2 := t2.size; have s3 := t3.size; have s4 := F4.turn.size; have s5 := t5.size; have s6 := t6.size; have s7 := t7.size; have s79 := t79.size
    refine rs_begin (n0 := w1.heap.size) (n1 := w4.heap.size) (n2 := w5.heap.size) (n3 := w6.heap.size) (n4 := w7.heap.size) ((R0b.turn_no t37).turn_no (t79.then_no ta)) ((R1.turn_no (t6.then_no t7)).turn_no (t79.then_no ta)) ((K0.turn_no t7).turn_no (t79.then_no ta)) (K1.turn_no (t79.then_no ta)) (fun g hg => ⟨f0 g hg, ?_⟩) (fun g hg => ⟨f1 g hg, R1.foot_lt hg⟩) (fun g hg => ⟨f2 g hg, K0.foot_lt hg⟩) (fun g hg => ⟨f3 g hg, K1.foot_lt hg⟩) (heap_alloc_new w9 _) (by omega) (by omega) (by omega) (by omega) (by omega) (((tw5.then_no (t6.then_no t7)).then_no t79).then_no ta) (by omega)
    have := R0b.foot_lt hg
    omega
  clear R0 R0b R1 K0 K1 f0 f1 f2 f3 t1 t2 t3 t5 t6 t7 t8 t9 t37 t79 tw2 tw3 tw5 F4 lent1 bl1 bcs HS5 C29 H2 ol nl hgl1 hcs
  obtain ⟨kp, hkp⟩ : ∃ k, w9.heap.size = k := ⟨_, rfl⟩
  rw [hkp] at S0
  go_upto_region 12 with fail
  obtain ⟨wk, hwk⟩ : ∃ x, w9.alloc (.cells #[.slice none 0 0, .slice none 0 0, .slice none 0 0, .slice none 0 0] 58) = x := ⟨_, rfl⟩
  rw [hwk] at S0 ⊢
  clear hwk hkp
  have hLb : (L : Int) ≤ 5864062014634 := by have := HL.out; omega
  go_wp2_with fail
  go_loopw [12] (fun c wr => ∃ i : Nat, i ≤ L ∧ c = .int .i64 i ∧ Rs w wr (Q4 p0 p1 q0 q1) kp (Q2 B cs) i) (fun c _ => L - (intOf c).toNat)
  case atStart => exact ⟨0, Nat.zero_le _, rfl, S0⟩
  case round =>
    clear S0
    obtain ⟨i, hi, rfl, S⟩ := hrel
    by_cases hlt : i < L
    · have hlt' : (i : Int) < (L : Int) := by omega
      obtain ⟨x, hx⟩ : ∃ x, gs[i]? = some x := ⟨gs[i]'(by rw [HG.out.2]; exact hlt), List.getElem?_eq_getElem _⟩
      obtain ⟨b, off, cap', hva, hc1, hcells⟩ := HG.out.1 (by omega)
      cases hva
      obtain ⟨y0, y1, y2, hxa, hxb⟩ := hcells i x hx
      obtain ⟨xk, xa, xb⟩ := x
      simp only at y0 y1 y2 hxa hxb
      obtain ⟨ow, V, kv, C, Es, SS, e02, e13, hE, hEW⟩ := S
      obtain ⟨Cx, hCx⟩ : ∃ Cx, [Value.int .i64 xk, .int .i64 xa, .int .i64 xb] = Cx := ⟨_, rfl⟩
      have hAg : #[Value.int .i64 xk, .int .i64 xa, .int .i64 xb] = Cx.toArray := by rw [← hCx]
      have s48 : (Try.prog.info? 48).map (·.size) = some Cx.length := by rw [← hCx]; kernel_rfl
      have Hcc : Shut (∀ W, Turn no w W → W.rangeAt b (off + i * 3) Cx) := shutX (fun W t => by
        rw [← hCx]
        intro l u hu
        rcases l with _ | _ | _ | l
        · simp at hu; subst hu; exact t.keep y0 (fun q => q)
        · simp at hu; subst hu; exact t.keep y1 (fun q => q)
        · simp at hu; subst hu; exact t.keep y2 (fun q => q)
        · simp at hu)
      have hrA := Hcc.out wr SS.t
      have hleB : B.length ≤ 140737488355328 := by have := HB.out.2; omega
      have hleC : cs.length ≤ 140737488355328 := by have := HB.out.2; omega
      obtain ⟨r0, hr0⟩ : ∃ r, rgets B (C 0).1 (C 0).2 xk xa xb = r := ⟨_, rfl⟩
      obtain ⟨r1, hr1⟩ : ∃ r, rgets cs (C 1).1 (C 1).2 xk xa xb = r := ⟨_, rfl⟩
      have l0 : r0.2.1.length ≤ B.length := by rw [← hr0]; exact rgets_le _ _ _ _ _ _
      have l1 : r1.2.1.length ≤ cs.length := by rw [← hr1]; exact rgets_le _ _ _ _ _ _
      have cA : Calls Try.prog 20 #[.pointer (some ⟨p0, 0, none⟩), .agg #[.int .i64 xk, .int .i64 xa, .int .i64 xb]] wr _ := read_step SS (j := 0) (by omega) xk xa xb hxa hxb hleB r0 hr0
      have cB : ∀ W, Sx w W ow (Q4 p0 p1 q0 q1) V kp kv (Q2 B cs) (upd C 0 r0.2.2) Es → Calls Try.prog 33 #[.pointer (some ⟨q0, 0, none⟩), .agg #[.int .i64 xk, .int .i64 xa, .int .i64 xb]] W _ := fun W SW => told_step SW (j := 0) (by omega) xk xa xb hxa hxb hleB r0 (by rw [upd_other _ _ _ (by omega), e02]; exact hr0)
      rw [hAg] at cA
      simp only [hAg] at cB
      obtain ⟨n0, X0, c0⟩ := r0
      obtain ⟨n1, X1, c1⟩ := r1
      simp only at cA cB l0 l1
      have HP := shutX (And.intro cB (And.intro e02 (And.intro e13 (And.intro hr1 (And.intro hxa (And.intro hxb (And.intro hE (And.intro hEW (And.intro l0 (And.intro l1 (And.intro hleB (And.intro hleC (And.intro hi hlt)))))))))))))
      have HS := shutX SS
      have HF := shutX (fun g hg => SS.lt (g := g) hg)
      clear cB e02 e13 hr0 hr1 hxa hxb hE hEW l0 l1 hleB hleC SS hcells hc1 y0 y1 y2 hx hCx hLb hi hlt
      go_upto_region 16 with (first | (guard_target =~ wpList _ _ _ ({ dst := _, op := Op.load 48 _, .. } :: _) _ _; refine wpList_load_mid rfl 48 (.tmp 55) rfl b (off + i * 3) rfl Cx _ hrA Try.underlying48 rfl s48 ?_) | (go_at_call 20; refine cA.mono ?_; rintro e wA ⟨vx, rfl, bx, fx, gx, SA, TA⟩; obtain ⟨ax, lx, cx, hvx⟩ : ∃ a l c, vx = .slice a l c := (by obtain ⟨x, y, e⟩ := bx.slice; exact ⟨x, _, y, e⟩); subst hvx; clear cA))
      have hq0 : q0 < wr.heap.size := HF.out q0 (.inl ⟨2, by omega, .inl rfl⟩)
      have hq1 : q1 < wr.heap.size := HF.out q1 (.inl ⟨3, by omega, .inl rfl⟩)
      have hp1 : p1 < wr.heap.size := HF.out p1 (.inl ⟨1, by omega, .inl rfl⟩)
      have sA := TA.size
      obtain ⟨bX, hbX⟩ : ∃ x, wA.heap.size = x := ⟨_, rfl⟩
      obtain ⟨wA', hwA⟩ : ∃ x, wA.alloc (.cells #[.int .u64 n0, .slice ax lx cx] 33) = x := ⟨_, rfl⟩
      have tA' : Turn no wA wA' := by rw [← hwA]; exact (Turn.refl no wA).alloc _
      have BX : Bo wA' bX n0 (.slice ax lx cx) := by rw [← hwA, ← hbX]; exact Bo.new _ _ _
      have SA' := SA.no tA'
      have lX : ∀ g, (Value.slice ax lx cx).ownBlock = some g → wr.heap.size ≤ g ∧ g < bX := fun g hg => ⟨gx g hg, by rw [← hbX]; exact fx.lt hg⟩
      rw [hwA, hbX]
      rw [hbX] at sA
      have sA' := tA'.size
      rw [hbX] at sA'
      have bx' := bx.turn_no tA'
      clear bx fx gx SA TA hwA
      have hrB := Hcc.out wA' SA'.t
      have cB := HP.out.1 wA' SA'
      go_upto_region 17 with (first | (guard_target =~ wpList _ _ _ ({ dst := _, op := Op.load 48 _, .. } :: _) _ _; refine wpList_load_mid rfl 48 (.tmp 61) rfl b (off + i * 3) rfl Cx _ hrB Try.underlying48 rfl s48 ?_) | (go_at_call 33; refine cB.mono ?_; rintro e wB ⟨vy, rfl, bY, gy, SB, TB⟩; obtain ⟨ay, ly, cy, hvy⟩ : ∃ a l c, vy = .slice a l c := (by obtain ⟨x, y, e⟩ := bY.slice; exact ⟨x, _, y, e⟩); subst hvy; clear cB))
      obtain ⟨bYb, hbY⟩ : ∃ x, wB.heap.size = x := ⟨_, rfl⟩
      obtain ⟨wB', hwB⟩ : ∃ x, wB.alloc (.cells #[.int .u64 n0, .slice ay ly cy] 33) = x := ⟨_, rfl⟩
      have tB' : Turn no wB wB' := by rw [← hwB]; exact (Turn.refl no wB).alloc _
      have sB := TB.size
      have sB' := tB'.size
      rw [hbY] at sB sB'
      have BY : Bo wB' bYb n0 (.slice ay ly cy) := by rw [← hwB, ← hbY]; exact Bo.new _ _ _
      have hXl := BX.lt
      have BX1 := (BX.turn TB (fun q => by have : bX = q0 := q; omega)).turn tB' (fun q => q)
      have bx1 := (bx'.turn TB (fun g hg q => by have : g = q0 := q; have := lX g hg; omega)).turn_no tB'
      have by1 := bY.turn_no tB'
      have SB' := SB.no tB'
      rw [hwB, hbY]
      clear BX bx' bY SB TB SA' hwB hrB hrA
      have hlx : lx = X0.length := by obtain ⟨x, y, e⟩ := bx1.slice; cases e; rfl
      have hly : ly = X0.length := by obtain ⟨x, y, e⟩ := by1.slice; cases e; rfl
      have HLy := shutX (And.intro hlx hly)
      clear hlx hly
      have c12 : Calls Try.prog 12 #[.slice ax lx cx, .slice ay ly cy] wB' fun e w' => e = .returned (.bool true) ∧ ∃ n, w' = wB'.drewN n := (same_any wB' _ _ X0 X0 bx1 by1).mono (fun e w' ⟨q1, q2⟩ => ⟨by rw [q1]; simp, q2⟩)
      have c32 : ∀ W, Turn no wB' W → Calls Try.prog 32 #[.pointer (some ⟨p0, 0, none⟩), .pointer (some ⟨q0, 0, none⟩)] W fun e w' => e = .returned (.bool true) ∧ Turn no W w' := fun W t => stands_step (SB'.no t) (j := 0) (by omega) (by rw [upd_same, upd_other _ _ _ (by omega), upd_same]) HP.out.2.2.2.2.2.2.2.2.2.2.1
      have HC := shutX (And.intro c12 c32)
      clear c12 c32
      have k0 := BX1.c0
      have k1 := BX1.c1
      have k2 := BY.c0
      have k3 := BY.c1
      go_upto_region 19 with (first | (go_at_call 12; refine HC.out.1.mono ?_; rintro e w' ⟨rfl, m1, rfl⟩) | (go_at_call 32; refine (HC.out.2 _ ((Turn.refl no wB').drewN m1)).mono ?_; rintro e wC ⟨rfl, tC0⟩; have tC := ((Turn.refl no wB').drewN m1).then_no tC0; clear tC0))
      clear k0 k1 k2 k3 HC
      have SC := SB'.no tC
      have BX2 := BX1.turn tC (fun q => q)
      have BY2 := BY.turn tC (fun q => q)
      have bx2 := bx1.turn_no tC
      have by2 := by1.turn_no tC
      have sC := tC.size
      clear BX1 BY bx1 by1 SB' tC
      have cC : Calls Try.prog 20 #[.pointer (some ⟨p1, 0, none⟩), .agg #[.int .i64 xk, .int .i64 xa, .int .i64 xb]] wC _ := read_step SC (j := 1) (by omega) xk xa xb HP.out.2.2.2.2.1 HP.out.2.2.2.2.2.1 HP.out.2.2.2.2.2.2.2.2.2.2.2.1 (n1, X1, c1) (by rw [upd_other _ _ _ (by omega), upd_other _ _ _ (by omega)]; exact HP.out.2.2.2.1)
      have cD : ∀ W, Sx w W ow (Q4 p0 p1 q0 q1) V kp kv (Q2 B cs) (upd (upd (upd C 0 c0) (2 + 0) c0) 1 c1) Es → Calls Try.prog 33 #[.pointer (some ⟨q1, 0, none⟩), .agg #[.int .i64 xk, .int .i64 xa, .int .i64 xb]] W _ := fun W SW => told_step SW (j := 1) (by omega) xk xa xb HP.out.2.2.2.2.1 HP.out.2.2.2.2.2.1 HP.out.2.2.2.2.2.2.2.2.2.2.2.1 (n1, X1, c1) (by rw [upd_other _ _ _ (by omega), upd_other _ _ _ (by omega), upd_other _ _ _ (by omega)]; show rgets cs (C 3).1 (C 3).2 xk xa xb = _; rw [HP.out.2.2.1]; exact HP.out.2.2.2.1)
      rw [hAg] at cC
      simp only [hAg] at cD
      have HD := shutX cD
      clear cD
      have hrC := Hcc.out wC SC.t
      go_upto_region 20 with (first | (guard_target =~ wpList _ _ _ ({ dst := _, op := Op.load 48 _, .. } :: _) _ _; refine wpList_load_mid rfl 48 (.tmp 86) rfl b (off + i * 3) rfl Cx _ hrC Try.underlying48 rfl s48 ?_) | (go_at_call 20; refine cC.mono ?_; rintro e wD ⟨vz, rfl, bz, fz, gz, SD, TD⟩; obtain ⟨az, lz, cz, hvz⟩ : ∃ a l c, vz = .slice a l c := (by obtain ⟨x, y, e⟩ := bz.slice; exact ⟨x, _, y, e⟩); subst hvz; clear cC))
      obtain ⟨bZ, hbZ⟩ : ∃ x, wD.heap.size = x := ⟨_, rfl⟩
      obtain ⟨wD', hwD⟩ : ∃ x, wD.alloc (.cells #[.int .u64 n1, .slice az lz cz] 33) = x := ⟨_, rfl⟩
      have tD' : Turn no wD wD' := by rw [← hwD]; exact (Turn.refl no wD).alloc _
      have BZ : Bo wD' bZ n1 (.slice az lz cz) := by rw [← hwD, ← hbZ]; exact Bo.new _ _ _
      have SD' := SD.no tD'
      have lZ : ∀ g, (Value.slice az lz cz).ownBlock = some g → wC.heap.size ≤ g ∧ g < bZ := fun g hg => ⟨gz g hg, by rw [← hbZ]; exact fz.lt hg⟩
      have sD := TD.size
      have sD' := tD'.size
      rw [hbZ] at sD sD'
      have hYl := BY2.lt
      have BX3 := (BX2.turn TD (fun q => by have : bX = p1 := q; omega)).turn tD' (fun q => q)
      have BY3 := (BY2.turn TD (fun q => by have : bYb = p1 := q; omega)).turn tD' (fun q => q)
      have bx3 := (bx2.turn TD (fun g hg q => by have : g = p1 := q; have := lX g hg; omega)).turn_no tD'
      have by3 := (by2.turn TD (fun g hg q => by have : g = p1 := q; have := gy g hg; omega)).turn_no tD'
      have bz1 := bz.turn_no tD'
      have fz1 := fz.turn tD' (fun _ _ q => q)
      rw [hwD, hbZ]
      clear BX2 BY2 bx2 by2 bz fz gz SD TD SC hwD hrC
      have hrD := Hcc.out wD' SD'.t
      have cD := HD.out wD' SD'
      go_upto_region 21 with (first | (guard_target =~ wpList _ _ _ ({ dst := _, op := Op.load 48 _, .. } :: _) _ _; refine wpList_load_mid rfl 48 (.tmp 92) rfl b (off + i * 3) rfl Cx _ hrD Try.underlying48 rfl s48 ?_) | (go_at_call 33; refine cD.mono ?_; rintro e wE ⟨vv, rfl, bv1, gv, SE, TE⟩; obtain ⟨av, lv, cv, hvv⟩ : ∃ a l c, vv = .slice a l c := (by obtain ⟨x, y, e⟩ := bv1.slice; exact ⟨x, _, y, e⟩); subst hvv; clear cD))
      obtain ⟨bV, hbV⟩ : ∃ x, wE.heap.size = x := ⟨_, rfl⟩
      obtain ⟨wE', hwE⟩ : ∃ x, wE.alloc (.cells #[.int .u64 n1, .slice av lv cv] 33) = x := ⟨_, rfl⟩
      have tE' : Turn no wE wE' := by rw [← hwE]; exact (Turn.refl no wE).alloc _
      have sE := TE.size
      have sE' := tE'.size
      rw [hbV] at sE sE'
      have BV : Bo wE' bV n1 (.slice av lv cv) := by rw [← hwE, ← hbV]; exact Bo.new _ _ _
      have hZl := BZ.lt
      have BX4 := (BX3.turn TE (fun q => by have : bX = q1 := q; omega)).turn tE' (fun q => q)
      have BY4 := (BY3.turn TE (fun q => by have : bYb = q1 := q; omega)).turn tE' (fun q => q)
      have BZ1 := (BZ.turn TE (fun q => by have : bZ = q1 := q; omega)).turn tE' (fun q => q)
      have bx4 := (bx3.turn TE (fun g hg q => by have : g = q1 := q; have := lX g hg; omega)).turn_no tE'
      have by4 := (by3.turn TE (fun g hg q => by have : g = q1 := q; have := gy g hg; omega)).turn_no tE'
      have bz2 := (bz1.turn TE (fun g hg q => by have : g = q1 := q; have := lZ g hg; omega)).turn_no tE'
      have fz2 := (fz1.turn TE (fun g hg q => by have : g = q1 := q; have := lZ g hg; omega)).turn tE' (fun _ _ q => q)
      have bv2 := bv1.turn_no tE'
      have SE' := SE.no tE'
      rw [hwE, hbV]
      clear BX3 BY3 BZ bx3 by3 bz1 fz1 bv1 SE TE SD' hwE hrD HD
      have c12 : Calls Try.prog 12 #[.slice az lz cz, .slice av lv cv] wE' fun e w' => e = .returned (.bool true) ∧ ∃ n, w' = wE'.drewN n := (same_any wE' _ _ X1 X1 bz2 bv2).mono (fun e w' ⟨q1, q2⟩ => ⟨by rw [q1]; simp, q2⟩)
      have hCC : upd (upd (upd (upd C 0 c0) (2 + 0) c0) 1 c1) (2 + 1) c1 (2 + 1) = upd (upd (upd (upd C 0 c0) (2 + 0) c0) 1 c1) (2 + 1) c1 1 := by rw [upd_same, upd_other _ _ _ (by omega), upd_same]
      have c32 : ∀ W, Turn no wE' W → Calls Try.prog 32 #[.pointer (some ⟨p1, 0, none⟩), .pointer (some ⟨q1, 0, none⟩)] W fun e w' => e = .returned (.bool true) ∧ Turn no W w' := fun W t => stands_step (SE'.no t) (j := 1) (by omega) hCC HP.out.2.2.2.2.2.2.2.2.2.2.2.1
      have HC := shutX (And.intro c12 c32)
      clear c12 c32 hCC
      have k0 := BZ1.c0
      have k1 := BZ1.c1
      have k2 := BV.c0
      have k3 := BV.c1
      go_upto_region 23 with (first | (go_at_call 12; refine HC.out.1.mono ?_; rintro e w' ⟨rfl, m2, rfl⟩) | (go_at_call 32; refine (HC.out.2 _ ((Turn.refl no wE').drewN m2)).mono ?_; rintro e wF ⟨rfl, tF0⟩; have tF := ((Turn.refl no wE').drewN m2).then_no tF0; clear tF0))
      clear k0 k1 k2 k3 HC
      have SF := SE'.no tF
      have BX5 := BX4.turn tF (fun q => q)
      have BY5 := BY4.turn tF (fun q => q)
      have BZ2 := BZ1.turn tF (fun q => q)
      have bx5 := bx4.turn_no tF
      have by5 := by4.turn_no tF
      have fz3 := fz2.turn tF (fun _ _ q => q)
      have sF := tF.size
      have lz : lz = X1.length := by obtain ⟨x, y, e⟩ := bz2.slice; cases e; rfl
      have Hlz := shutX lz
      clear BX4 BY4 BZ1 bx4 by4 bz2 fz2 bv2 BV SE' tF lz
      have hC2 : upd (upd (upd (upd C 0 c0) (2 + 0) c0) 1 c1) (2 + 1) c1 2 = upd (upd (upd (upd C 0 c0) (2 + 0) c0) 1 c1) (2 + 1) c1 0 := by simp [upd]
      have hC3 : upd (upd (upd (upd C 0 c0) (2 + 0) c0) 1 c1) (2 + 1) c1 3 = upd (upd (upd (upd C 0 c0) (2 + 0) c0) 1 c1) (2 + 1) c1 1 := by simp [upd]
      generalize upd (upd (upd (upd C 0 c0) (2 + 0) c0) 1 c1) (2 + 1) c1 = C4 at *
      have s0 := HS.out.t.size
      have hw0 : ∀ g, (Value.slice az lz cz).ownBlock = some g → w.heap.size ≤ g := fun g hg => by have := (lZ g hg).1; omega
      have hX0 : X0.length + 400 ≤ 140737488355328 := by have := HP.out.2.2.2.2.2.2.2.2.1; have := HB.out.2; omega
      have hX1 : X1.length + 50 ≤ 140737488355328 := by have := HP.out.2.2.2.2.2.2.2.2.2.1; have := HB.out.2; omega
      have em : ((UInt8.ofNat (200 + i % 50)).toNat : Int) = 200 + (i : Int) % 50 := by simp; omega
      have hE1 : Es.length ≤ i := HP.out.2.2.2.2.2.2.1
      have hEW := HP.out.2.2.2.2.2.2.2.1
      have hiL : i < L := HP.out.2.2.2.2.2.2.2.2.2.2.2.2.2
      have hm : bX < wF.heap.size := by omega
      have HM := shutX (And.intro em (And.intro hX0 (And.intro hX1 (And.intro hE1 (And.intro hEW (And.intro hiL (And.intro hC2 (And.intro hC3 hw0))))))))
      have HSZ := shutX (And.intro sA (And.intro sA' (And.intro sB (And.intro sB' (And.intro sC (And.intro sD (And.intro sD' (And.intro sE (And.intro sE' (And.intro sF (And.intro s0 (And.intro BZ2.lt hm))))))))))))
      have HQ := shutX (And.intro lX (And.intro gy lZ))
      clear em hX0 hX1 hE1 hEW hiL hC2 hC3 hw0 sA sA' sB sB' sC sD sD' sE sE' sF s0 hq0 hq1 hp1 hXl hYl hZl lX gy lZ hbX hbY hbZ hbV tA' tB' tD' tE' hm
      have k3 := BY5.c1
      as_aux_lemma =>
        by_cases hY : 0 < X0.length
        · have hly' : (0 : Int) < (ly : Int) := by have := HLy.out.2; omega
          go_upto_region 24 with fail
          have Hc := shutX (fun W (t : Turn (Foot (Q4 p0 p1 q0 q1) V kp kv Es) wF W) => And.intro (BX5.turn t (fun q => by have := HF.out _ q; have := HSZ.out; omega)).c1 (BY5.turn t (fun q => by have := HF.out _ q; have := HSZ.out; omega)).c1)
          have Hsr := shutX (fun W (t : Turn no wF W) => (bx5.turn_no t).src (P := Try.prog) Try.underlying25)
          refine wp_region_held_drew (S := fun W => Turn (Foot (Q4 p0 p1 q0 q1) V kp kv Es) wF W) (by kernel_rfl) (Turn.refl _ wF).drew (fun hHeld => ?_)
          refine' wpAnyH_take (i := 0) (v := .pointer (some ⟨kp, 0, none⟩)) rfl (by kernel_rfl) (by kernel_rfl) (by kernel_rfl) (fun _ _ _ h => h) (Or.inl ⟨by kernel_rfl, fun W hW => ?y1⟩) hHeld ?r1
          · go_simp
          refine' wpAnyH_take (i := 1) (v := .pointer (some ⟨bX, 1, none⟩)) rfl (by kernel_rfl) (by kernel_rfl) (by kernel_rfl) (fun _ _ _ h => h) (Or.inl ⟨by kernel_rfl, fun W hW => ?y2⟩) hHeld ?r2
          · go_simp
          refine' wpAnyH_take (i := 2) (v := .slice ax lx cx) rfl (by kernel_rfl) (by kernel_rfl) (by kernel_rfl) (fun _ _ _ h => h) (Or.inl ⟨by kernel_rfl, fun W hW => ?y3⟩) hHeld ?r3
          · obtain ⟨z0, z1⟩ := Hc.out W hW
            go_simp
          refine' wpAnyH_take (i := 4) (v := .pointer (some ⟨bX, 1, none⟩)) rfl (by kernel_rfl) (by kernel_rfl) (by kernel_rfl) (fun _ _ _ h => h) (Or.inl ⟨by kernel_rfl, fun W hW => ?y4⟩) hHeld ?r4
          · go_simp
          refine' wpAnyH_take (i := 5) (v := .slice ax lx cx) rfl (by kernel_rfl) (by kernel_rfl) (by kernel_rfl) (fun _ _ _ h => h) (Or.inl ⟨by kernel_rfl, fun W hW => ?y5⟩) hHeld ?r5
          · obtain ⟨z0, z1⟩ := Hc.out W hW
            go_simp
          refine' wpAnyH_take (i := 7) (v := .pointer (some ⟨bYb, 1, none⟩)) rfl (by kernel_rfl) (by kernel_rfl) (by kernel_rfl) (fun _ _ _ h => h) (Or.inl ⟨by kernel_rfl, fun W hW => ?y6⟩) hHeld ?r6
          · go_simp
          refine' wpAnyH_take (i := 8) (v := .slice ay ly cy) rfl (by kernel_rfl) (by kernel_rfl) (by kernel_rfl) (fun _ _ _ h => h) (Or.inl ⟨by kernel_rfl, fun W hW => ?y7⟩) hHeld ?r7
          · obtain ⟨z0, z1⟩ := Hc.out W hW
            go_simp
          refine wpAnyH_ready (rs := [3]) (by kernel_rfl) (by simp) ?_
          refine AllReadyH.cons rfl (fun K hK => ?_) AllReadyH.nil
          go_simp
          refine hK.out _ _ (hHeld.alloc _) (fun hHeld2 => ?_)
          clear hK
          refine wpAnyH_ready (rs := [6]) (by kernel_rfl) (by simp) ?_
          refine AllReadyH.cons rfl (fun K hK => ?_) AllReadyH.nil
          refine step_append_src rfl (.tmp 121) (.tmp 123) rfl Try.underlying25 Try.info5 rfl (.slice (some ⟨wF.drew.heap.size, 0, none⟩) 0 0) [] (by simp [Act.eval]) (own_empty _ 5) _ X0.length (X0.map bv) (by simp [Act.eval]) (Hsr.out _ (((Turn.refl no wF).alloc _).drew)) (by have := HM.out.2.1; simp; omega) (by have := HM.out.2.1; simp [maxLen]; omega) ?_
          intro v1 wG o1 g1
          have F1 := (fr_empty wF).append (ys := X0) ((Turn.refl no _).drew) o1 g1
          rw [List.nil_append] at F1
          obtain ⟨a1, n1', c1', rfl⟩ := o1.form
          refine hK.out _ _ F1.turn.of_no (fun hHeld3 => ?_)
          clear hK
          have CN := note_step (SF.no F1.turn) wr.heap.size HF.out (.slice ax lx cx) (.slice a1 n1' c1') (.slice ay ly cy) X0 (bx5.turn_no F1.turn) F1.own (by5.turn_no F1.turn) wF.heap.size (fun g hg => by have := HQ.out.1 g hg; have := HSZ.out; omega) F1.new (fun g hg => by have := HQ.out.2.1 g hg; have := HSZ.out; omega) (by have := HSZ.out; omega) F1.turn.size (by have := HSZ.out; omega) (by have := HM.out; have := HL.out; omega) (by have := HM.out.2.1; omega)
          refine wpAnyH_ready (rs := [9]) (by kernel_rfl) (by simp) ?_
          refine AllReadyH.cons rfl (fun K hK => ?_) AllReadyH.nil
          go_simp
          refine CN.mono ?_
          rintro e wH ⟨rfl, owH, kvH, xn, SH, hxW, hfoot, tH⟩
          have tFH : Turn (Foot (Q4 p0 p1 q0 q1) V kp kv Es) wF wH := F1.turn.of_no.trans tH (fun g hg q => q.resolve_right (by omega))
          refine hK.out _ _ tFH (fun hHeld4 => ?_)
          clear hK
          refine wpAnyH_done (by kernel_rfl) ?_ _
          go_simp
          have fzH : Fu wH (.slice az lz cz) X1.length := (fz3.turn F1.turn (fun _ _ q => q)).turn tH (fun g hg q => by
            have h1 := HQ.out.2.2 g hg
            have h2 := HSZ.out
            rcases q with q | q
            · have := HF.out g q; omega
            · omega)
          have BZH : Bo wH bZ n1 (.slice az lz cz) := (BZ2.turn F1.turn (fun q => q)).turn tH (fun q => by
            have h2 := HSZ.out
            rcases q with q | q
            · have := HF.out bZ q; omega
            · omega)
          have nfz : ∀ g, Foot (Q4 p0 p1 q0 q1) V kp kvH (Es ++ [xn]) g → ¬ (Value.slice az lz cz).ownBlock = some g := fun g hg q => by
            have h1 := HQ.out.2.2 g q
            have h2 := HSZ.out
            rcases hfoot g hg with ⟨_, r | r⟩ | r
            · have := HF.out g r; omega
            · have := HQ.out.1 g r; omega
            · omega
          have c35 := full35f wH _ X1.length (UInt8.ofNat (200 + i % 50)) fzH HM.out.2.2.1
          rw [HM.out.1] at c35
          have hEH : ((Es ++ [xn])).length ≤ i + 1 := by have := HM.out.2.2.2.1; simp; omega
          have hWH : ∀ y ∈ (Es ++ [xn]), y.W.length ≤ 140737488355000 := fun y hy => by
            rcases List.mem_append.1 hy with hy | hy
            · exact HM.out.2.2.2.2.1 y hy
            · rw [List.mem_singleton] at hy; rw [hy, hxW]; have := HM.out.2.1; omega
          have HR := shutX (And.intro SH (And.intro nfz (And.intro hEH hWH)))
          have kz := BZH.c1
          clear fzH BZH nfz SH hEH hWH BX5 BY5 BZ2 bx5 by5 fz3 SF k3 F1 hfoot tH hxW CN tFH hHeld4 Hc Hsr hHeld hHeld2 hHeld3
          have hib : (i : Int) ≤ 5864062014634 := by have h5 := HM.out.2.2.2.2.2.1; have h6 := HL.out; omega
          go_wp2_with (go_at_call 35; refine c35.mono ?_; rintro e wI ⟨vI, rfl, tI⟩; clear c35)
          go_roundw
          case rel => exact ⟨i + 1, by have h5 := HM.out.2.2.2.2.2.1; omega, by go_num, ⟨_, V, _, C4, _, HR.out.1.off tI HR.out.2.1 HM.out.2.2.2.2.2.2.2.2, HM.out.2.2.2.2.2.2.1, HM.out.2.2.2.2.2.2.2.1, HR.out.2.2.1, HR.out.2.2.2⟩⟩
          case measure =>
            have h5 := HM.out.2.2.2.2.2.1
            simp [intOf]
            omega
        · have hly' : ¬ (0 : Int) < (ly : Int) := by have := HLy.out.2; omega
          have fzH : Fu wF (.slice az lz cz) X1.length := fz3
          have BZH : Bo wF bZ n1 (.slice az lz cz) := BZ2
          have nfz : ∀ g, Foot (Q4 p0 p1 q0 q1) V kp kv Es g → ¬ (Value.slice az lz cz).ownBlock = some g := fun g hg q => by
            have h1 := HQ.out.2.2 g q
            have h2 := HSZ.out
            have := HF.out g hg
            omega
          have c35 := full35f wF _ X1.length (UInt8.ofNat (200 + i % 50)) fzH HM.out.2.2.1
          rw [HM.out.1] at c35
          have hEH : (Es).length ≤ i + 1 := by have := HM.out.2.2.2.1; omega
          have hWH : ∀ y ∈ Es, y.W.length ≤ 140737488355000 := HM.out.2.2.2.2.1
          have HR := shutX (And.intro SF (And.intro nfz (And.intro hEH hWH)))
          have kz := BZH.c1
          clear fzH BZH nfz SF hEH hWH BX5 BY5 BZ2 bx5 by5 fz3
          have hib : (i : Int) ≤ 5864062014634 := by have h5 := HM.out.2.2.2.2.2.1; have h6 := HL.out; omega
          go_wp2_with (go_at_call 35; refine c35.mono ?_; rintro e wI ⟨vI, rfl, tI⟩; clear c35)
          go_roundw
          case rel => exact ⟨i + 1, by have h5 := HM.out.2.2.2.2.2.1; omega, by go_num, ⟨_, V, _, C4, _, HR.out.1.off tI HR.out.2.1 HM.out.2.2.2.2.2.2.2.2, HM.out.2.2.2.2.2.2.1, HM.out.2.2.2.2.2.2.2.1, HR.out.2.2.1, HR.out.2.2.2⟩⟩
          case measure =>
            have h5 := HM.out.2.2.2.2.2.1
            simp [intOf]
            omega
    · obtain rfl : i = L := by omega
      have hlt' : ¬ (i : Int) < (i : Int) := by omega
      have C25 := holds_step S (by omega)
      clear S
      go_wp2_with (go_at_call 25; refine C25.mono ?_; rintro e w10 ⟨rfl, t10⟩)
      go_ret
      exact ⟨rfl, t10⟩
end Go.Proofs.Ytfjdojodbhmmaaa
