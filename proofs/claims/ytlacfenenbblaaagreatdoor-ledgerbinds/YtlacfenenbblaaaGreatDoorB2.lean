/- The law's beside. -/
import Derived.Test.YtlacfenenbblaaaGreatDoorB1
import Derived.Test.YtlacfenenbblaaaGreatDoorK7
import Derived.Test.YtlacfenenbblaaaGreatDoorY6
import Derived.Test.YtlacfenenbblaaaGreatDoorP2
namespace Go.Proofs.YtlacfenenbblaaaGreatDoor
open Go.RowKit
set_option linter.unusedVariables false

theorem leB_inj (n n' : Nat) : ∀ k, leB n k = leB n' k → n % 256 ^ k = n' % 256 ^ k
  | 0, _ => by simp [Nat.mod_one]
  | k + 1, h => by
    rw [leB_succ, leB_succ] at h
    obtain ⟨h1, h2⟩ := List.append_inj h (by rw [leB_length, leB_length])
    have ih := leB_inj n n' k h1
    have h3 : n / 256 ^ k % 256 = n' / 256 ^ k % 256 := by
      have := congrArg UInt8.toNat (List.cons.inj h2).1
      simpa using this
    rw [Nat.mod_pow_succ, Nat.mod_pow_succ, ih, h3]
theorem leB8 {n n' : Nat} (hn : n < 18446744073709551616) (hn' : n' < 18446744073709551616) (h : leB n 8 = leB n' 8) : n = n' := by
  have := leB_inj n n' 8 h
  rw [show (256 : Nat) ^ 8 = 18446744073709551616 by decide, Nat.mod_eq_of_lt hn, Nat.mod_eq_of_lt hn'] at this
  exact this
theorem formB_inj {m m' : Ac} (h : m.ok) (h' : m'.ok) (e : formB m = formB m') : m = m' := by
  obtain ⟨a, b, c, d, j⟩ := m
  obtain ⟨a', b', c', d', j'⟩ := m'
  obtain ⟨h1, h2, h3, h4⟩ := h
  obtain ⟨g1, g2, g3, g4⟩ := h'
  unfold formB at e
  obtain ⟨e, e5⟩ := List.append_inj e (by simp [leB_length])
  obtain ⟨e, e4⟩ := List.append_inj e (by simp [leB_length])
  obtain ⟨e, e3⟩ := List.append_inj e (by simp [leB_length])
  obtain ⟨e1, e2⟩ := List.append_inj e (by simp [leB_length])
  have q1 := leB8 h1 g1 e1
  have q2 := leB8 h2 g2 e2
  have q3 := leB8 h3 g3 e3
  have q4 := leB8 h4 g4 e4
  have q5 : j = j' := by
    have := leB_inj _ _ 1 e5
    cases j <;> cases j' <;> first | rfl | (simp [jB] at this)
  simp only at q1 q2 q3 q4
  subst q1 q2 q3 q4 q5
  rfl
theorem acR_root {l : List Ac} {its : Its} (h : txs its = forms l) : hashOf (rootT its) = acR l := by
  have : its.length = (forms l).length := by rw [← h, txs_len]
  unfold rootT acR rtT
  rw [h, this]
theorem its_ok2 {its : Its} {l : List Ac} (hq : txs its = forms l) (hn : l.length ≤ 65536) : its.length = l.length ∧ okL its := by
  have e : its.length = l.length := by rw [← txs_len, hq]; simp [forms]
  exact ⟨e, by omega, fun x hx => form_small l x.2 (by rw [← hq]; exact List.mem_map_of_mem hx)⟩
/-- Beside, of an account and its proof. -/
theorem bes41 (W : World) (l0 : Laid0 W) (h2 : 2 ≤ W.heap.size) (l : List Ac) (hl : l.length ≤ 65536) (hok : ∀ m ∈ l, m.ok) (a : Option Addr) (ca : Nat) (its : Its) (B : BlAt W a ca its) (hq : txs its = forms l) (m : Ac) (hm : m.ok) (q : Pf) (hL : Let (acR l) m q) (a' : Option Addr) (c' : Nat) (hH : HsAt W a' c' q.A) (u : Value) (hb : Bs W u (formB m)) :
    Calls Tryz.prog 41 #[.slice a its.length ca, .agg #[.int .i64 q.t, .int .i64 q.i, .slice a' q.A.length c'], u] W fun e w' => Sc (Alike l m q) W e w' := by
  obtain ⟨f1, f2⟩ := hL
  unfold fitsB at f1
  have f1 := of_decide_eq_true f1
  obtain ⟨f3, f4, f5, f6, f7⟩ := f1
  obtain ⟨e1, e2⟩ := its_ok2 hq hl
  have et : q.t = ((q.t.toNat : Nat) : Int) := by omega
  have ei : q.i = ((q.i.toNat : Nat) : Int) := by omega
  have := beside12 W its a ca B e2 q.t.toNat q.i.toNat q.A a' c' hH u (formB m) hb (by rw [formB_len]; omega) (by omega) (by omega) (by omega) f7 (by rw [acR_root hq]; exact f2.symm) l0 h2
  rw [← et, ← ei] at this
  refine this.mono (fun e w' z => Sc.imp z (fun h => ?_))
  obtain ⟨g1, g2⟩ := h
  rw [hq] at g2
  unfold forms at g2
  rw [List.getElem?_map] at g2
  obtain ⟨m', hm', hf⟩ := Option.map_eq_some_iff.1 g2
  have := formB_inj (hok m' (List.mem_of_getElem? hm')) hm hf
  subst this
  exact ⟨by omega, by omega, by omega, hm'⟩

set_option maxRecDepth 100000 in
set_option maxHeartbeats 16000000 in
theorem beside18 (w : World) (l0 : Laid0 w) (h2 : 2 ≤ w.heap.size) (va vr : Value) (l : List Ac) (ha : As w va l) (hl : l.length ≤ 65536) (b s : Nat) (R : List UInt8) (hR : R.length = 32) (v1 v2 : Value) (L : List Ac) (Q : List Pf) (hL : As w v1 L) (hQ : Qs w v2 Q) (hn : Q.length = L.length) (hLet : ∀ (j : Nat) m q, L[j]? = some m → Q[j]? = some q → Let (acR l) m q) :
    Calls Tryz.prog 18 #[.agg (ldA va vr b s), .agg (wtL R v1 v2).toArray] w fun e w' => Sc (∀ (j : Nat) m q, L[j]? = some m → Q[j]? = some q → Alike l m q) w e w' := by
  obtain ⟨w0, hw0⟩ : ∃ w0, (w.alloc (.cells (ldA va vr b s) 26)).alloc (.cells (wtL R v1 v2).toArray 32) = w0 := ⟨_, rfl⟩
  have T0 : Turn no w w0 := by rw [← hw0]; exact ((Turn.refl no w).alloc _).alloc _
  have RL : Row w0 w.heap.size (ldA va vr b s) 26 := by rw [← hw0]; exact (Row.new w _ 26).alloc _
  have RW : Row w0 (w.heap.size + 1) (wtL R v1 v2).toArray 32 := by rw [← hw0]; exact Row.newAt _ _ _ _ (by simp)
  have iL := ld_info va vr b s
  have hF : Calls Tryz.prog 9 #[.agg (ldA va vr b s)] w0 (Fs w0 l) := rforms27 w0 va vr l (ha.turn_no T0) hl b s
  obtain ⟨aA, cA, eA, hAA⟩ := id hL
  obtain ⟨aQ, cQ, eQ, hQQ⟩ := id hQ
  have c32 := RW.cell 32 _ (wtL_32 hR v1 v2)
  have c33 := RW.cell 33 _ (wtL_33 hR v1 v2)
  have HC : Shut (∀ W, Turn no w0 W → W.cell? ⟨w.heap.size + 1, 32, none⟩ = some v1 ∧ W.cell? ⟨w.heap.size + 1, 33, none⟩ = some v2) := fun W t => ⟨t.keep c32 (fun q => q), t.keep c33 (fun q => q)⟩
  have HAA : Shut (∀ W, Turn no w0 W → AsAt W aA cA L ∧ QsAt W aQ cQ Q) := fun W t => ⟨hAA.turn_no (T0.then_no t), hQQ.turn_no (T0.then_no t)⟩
  have HFO : Shut (∀ W, Turn no w0 W → ∀ m ∈ L, Calls Tryz.prog 11 #[.agg (acs m).toArray] W fun e w' => ∃ v, e = .returned v ∧ Fr W w' v (formB m)) := fun W t m hm => rform17 W m (hAA.ok m hm)
  have HBE : Shut (∀ W a ca its, Turn no w0 W → BlAt W a ca its → txs its = forms l → ∀ (j : Nat) m q, L[j]? = some m → Q[j]? = some q → ∀ a' c' u, HsAt W a' c' q.A → Bs W u (formB m) → Calls Tryz.prog 41 #[.slice a its.length ca, .agg (pfC q a' c').toArray, u] W fun e w' => Sc (Alike l m q) W e w') := fun W a ca its t B hq j m q hm hqq a' c' u hH hb => by
    have := bes41 W (l0.turn (T0.then_no t) (fun q => q)) (by have := (T0.then_no t).size; omega) l hl ha.choose_spec.choose_spec.2.ok a ca its B hq m (hAA.ok m (List.mem_of_getElem? hm)) q (hLet j m q hm hqq) a' c' hH u hb
    exact this
  have hLn := hAA.le
  have hLc := hAA.cap
  have hQn := hQQ.le
  have hQc := hQQ.cap
  rw [hn] at hQn
  obtain ⟨n, hnL⟩ : ∃ n, Shut (L.length = n) := ⟨_, rfl⟩
  have hnn := hnL.out
  rw [hnn] at hLn hQn eA
  rw [hn, hnn] at eQ
  simp only [maxLen] at hLc hQc
  have hnb : n ≤ 9223372036854775807 := by omega
  have HB : Shut (n ≤ cA ∧ n ≤ cQ ∧ Q.length = n) := ⟨hLn, hQn, by rw [hn, hnn]⟩
  have HT0 := shut T0
  obtain ⟨PX, hPX⟩ : ∃ P : Prop, P = (∀ (j : Nat) m q, L[j]? = some m → Q[j]? = some q → Alike l m q) := ⟨_, rfl⟩
  rw [← hPX]
  have HPX := shut hPX
  clear hPX hL hQ hAA hQQ c32 c33 ha hLet hn hnn l0 h2 hR hl hLc hQc T0 RW
  subst eA eQ
  generalize ldA va vr b s = LA at *
  generalize (wtL R _ _).toArray = WA at *
  go_enter Tryz.func18, Tryz.ntmps18
  go_upto_region 1 with fail
  try rw [hw0]
  clear hw0
  go_upto_region 3 with (first | (guard_target =~ wpList _ _ _ ({ dst := some 10, .. } :: _) _ _; refine wpList_load_row rfl 26 (.tmp 2) rfl w.heap.size rfl 26 LA _ _ RL Tryz.underlying26 rfl iL ?_) | (go_at_call 9; refine hF.mono ?_; clear hF; rintro e w1 ⟨fa, fc, its, rfl, B1, q1, t1⟩))
  have HB1 : Shut (∀ W, Turn no w1 W → BlAt W fa fc its) := fun W t => B1 W t.of_no
  have HQ1 := shut q1
  have HT1 := shut t1
  clear RL iL B1 q1 t1
  go_loopw [7] (fun x wr => ∃ j : Nat, j ≤ n ∧ x = .int .i64 j ∧ Shut ((∀ (i : Nat) m q, i < j → L[i]? = some m → Q[i]? = some q → Alike l m q) ∧ Turn no w1 wr)) (fun x _ => n - (intOf x).toNat)
  case atStart => exact ⟨0, by omega, rfl, (fun i m q h => by omega), Turn.refl _ _⟩
  case round =>
    obtain ⟨j, hj, rfl, HI⟩ := hrel
    have T0r := HT1.out.then_no HI.out.2
    obtain ⟨z32, z33⟩ := HC.out wr T0r
    by_cases hlt : j < n
    · have hlt' : (j : Int) < (n : Int) := by omega
      obtain ⟨m, hm⟩ : ∃ m, L[j]? = some m := ⟨L[j]'(by rw [hnL.out]; exact hlt), List.getElem?_eq_getElem _⟩
      obtain ⟨q, hq⟩ : ∃ q, Q[j]? = some q := ⟨Q[j]'(by rw [HB.out.2.2]; exact hlt), List.getElem?_eq_getElem _⟩
      obtain ⟨hA1, hQ1⟩ := HAA.out wr T0r
      obtain ⟨bA, oA, ea, rA⟩ := hA1.range j m hm
      obtain ⟨bQ, oQ, a', c', eq, hH, rQ⟩ := hQ1.cells j q hq
      subst ea
      subst eq
      have HR : Shut (∀ W, Turn no wr W → W.cell? ⟨w.heap.size + 1, 32, none⟩ = some (.slice (some ⟨bA, oA, none⟩) n cA) ∧ W.cell? ⟨w.heap.size + 1, 33, none⟩ = some (.slice (some ⟨bQ, oQ, none⟩) n cQ) ∧ W.rangeAt bA (oA + j * 5) (acs m) ∧ W.rangeAt bQ (oQ + j * 3) (pfC q a' c')) := fun W t => ⟨(HC.out W (T0r.then_no t)).1, (HC.out W (T0r.then_no t)).2, fun i v hi => t.keep (rA i v hi) (fun q => q), fun i v hi => t.keep (rQ i v hi) (fun q => q)⟩
      have F11 : Shut (∀ W, Turn no wr W → Calls Tryz.prog 11 #[.agg (acs m).toArray] W fun e w' => ∃ v, e = .returned v ∧ Fr W w' v (formB m)) := fun W t => HFO.out W (T0r.then_no t) m (List.mem_of_getElem? hm)
      have F41 : Shut (∀ W u, Turn no wr W → Bs W u (formB m) → Calls Tryz.prog 41 #[.slice fa its.length fc, .agg (pfC q a' c').toArray, u] W fun e w' => Sc (Alike l m q) W e w') := fun W u t hu => HBE.out W fa fc its (T0r.then_no t) (HB1.out W (HI.out.2.then_no t)) HQ1.out j m q hm hq a' c' u (hH.turn_no t) hu
      have HAL : Shut (Alike l m q → ∀ (i : Nat) m q, i < j + 1 → L[i]? = some m → Q[i]? = some q → Alike l m q) := fun h i x y hi hx hy => by
        rcases Nat.lt_or_ge i j with z | z
        · exact HI.out.1 i x y z hx hy
        · have : i = j := by omega
          subst this
          rw [hm] at hx
          rw [hq] at hy
          cases hx
          cases hy
          exact h
      have HTr := shut HI.out.2
      have hcA : n ≤ cA := HB.out.1
      have hcQ : n ≤ cQ := HB.out.2.1
      have i38 : (Tryz.prog.info? 38).map (·.size) = some (acs m).length := by kernel_rfl
      have i47 : (Tryz.prog.info? 47).map (·.size) = some (pfC q a' c').length := by kernel_rfl
      have HI38 := shut i38
      have HI47 := shut i47
      have T1r := shut T0r
      clear HFO HBE HAA hA1 hQ1 rA rQ hH hm hq HI i38 i47 T0r
      generalize (forms l) = FL at *
      generalize formB m = FM at *
      generalize hAM : acs m = AM at *
      generalize hPC : pfC q a' c' = PC at *
      clear hAM hPC
      generalize its.length = nf at *
      go_upto_region 5 with fail
      clear z32 z33
      refine wp_region_held_drew (S := fun W => Turn no wr W) (by kernel_rfl) (Turn.refl no wr).drew (fun hHeld => ?_)
      refine' wpAnyH_take (i := 0) (v := .slice fa nf fc) rfl (by kernel_rfl) (by kernel_rfl) (by kernel_rfl) (fun _ _ _ h => h) (Or.inl ⟨by kernel_rfl, fun W hW => ?y1⟩) hHeld ?r1
      · go_simp
      refine' wpAnyH_take (i := 1) (v := .pointer (some ⟨w.heap.size + 1, 33, none⟩)) rfl (by kernel_rfl) (by kernel_rfl) (by kernel_rfl) (fun _ _ _ h => h) (Or.inl ⟨by kernel_rfl, fun W hW => ?y2⟩) hHeld ?r2
      · go_simp
      refine' wpAnyH_take (i := 2) (v := .slice (some ⟨bQ, oQ, none⟩) n cQ) rfl (by kernel_rfl) (by kernel_rfl) (by kernel_rfl) (fun _ _ _ h => h) (Or.inl ⟨by kernel_rfl, fun W hW => ?y3⟩) hHeld ?r3
      · have cc := (HR.out W hW).2.1
        go_simp
      refine' wpAnyH_take (i := 3) (v := .int .i64 j) rfl (by kernel_rfl) (by kernel_rfl) (by kernel_rfl) (fun _ _ _ h => h) (Or.inl ⟨by kernel_rfl, fun W hW => ?y4⟩) hHeld ?r4
      · go_simp
      refine' wpAnyH_take (i := 4) (v := .pointer (some ⟨bQ, oQ + j * 3, none⟩)) rfl (by kernel_rfl) (by kernel_rfl) (by kernel_rfl) (fun _ _ _ h => h) (Or.inl ⟨by kernel_rfl, fun W hW => ?y5⟩) hHeld ?r5
      · go_simp
      refine' wpAnyH_take (i := 5) (v := .agg PC.toArray) rfl (by kernel_rfl) (by kernel_rfl) (by kernel_rfl) (fun _ _ _ h => h) (yieldsIf_load_mid (by kernel_rfl) 47 (.tmp 24) rfl bQ (oQ + j * 3) (by go_simp) PC _ (fun W h => (HR.out W h).2.2.2) Tryz.underlying47 rfl HI47.out) hHeld ?s5
      refine' wpAnyH_take (i := 6) (v := .pointer (some ⟨w.heap.size + 1, 32, none⟩)) rfl (by kernel_rfl) (by kernel_rfl) (by kernel_rfl) (fun _ _ _ h => h) (Or.inl ⟨by kernel_rfl, fun W hW => ?y6⟩) hHeld ?r6
      · go_simp
      refine' wpAnyH_take (i := 7) (v := .slice (some ⟨bA, oA, none⟩) n cA) rfl (by kernel_rfl) (by kernel_rfl) (by kernel_rfl) (fun _ _ _ h => h) (Or.inl ⟨by kernel_rfl, fun W hW => ?y7⟩) hHeld ?r7
      · have cc := (HR.out W hW).1
        go_simp
      refine' wpAnyH_take (i := 8) (v := .int .i64 j) rfl (by kernel_rfl) (by kernel_rfl) (by kernel_rfl) (fun _ _ _ h => h) (Or.inl ⟨by kernel_rfl, fun W hW => ?y8⟩) hHeld ?r8
      · go_simp
      refine' wpAnyH_take (i := 9) (v := .pointer (some ⟨bA, oA + j * 5, none⟩)) rfl (by kernel_rfl) (by kernel_rfl) (by kernel_rfl) (fun _ _ _ h => h) (Or.inl ⟨by kernel_rfl, fun W hW => ?y9⟩) hHeld ?r9
      · go_simp
      refine' wpAnyH_take (i := 10) (v := .agg AM.toArray) rfl (by kernel_rfl) (by kernel_rfl) (by kernel_rfl) (fun _ _ _ h => h) (yieldsIf_load_mid (by kernel_rfl) 38 (.tmp 29) rfl bA (oA + j * 5) (by go_simp) AM _ (fun W h => (HR.out W h).2.2.1) Tryz.underlying38 rfl HI38.out) hHeld ?s10
      simp only [List.getElem_toArray, List.getElem_cons_succ, List.getElem_cons_zero, Act.put, List.setIfInBounds_toArray, List.set_cons_zero, List.set_cons_succ]
      refine wpAnyH_ready (rs := [11]) (by kernel_rfl) (by simp) ?_
      refine AllReadyH.cons rfl (fun K hK => ?_) AllReadyH.nil
      go_simp
      refine (F11.out _ hHeld).mono ?_
      rintro e w2 ⟨vf, rfl, Ff⟩
      obtain ⟨fa2, fl2, fc2, rfl⟩ := Ff.own.form
      refine hK.out _ _ (hHeld.then_no Ff.turn) (fun hHeld => ?_)
      clear hK
      refine wpAnyH_ready (rs := [12]) (by kernel_rfl) (by simp) ?_
      refine AllReadyH.cons rfl (fun K hK => ?_) AllReadyH.nil
      go_simp
      refine (F41.out _ _ hHeld Ff.own.bs).mono ?_
      rintro e w3 ⟨sB, cB, rfl, hsc, t3⟩
      have HSC := shut hsc
      clear hsc
      refine hK.out _ _ (hHeld.then_no t3) (fun hHeld => ?_)
      clear hK
      refine' wpAnyH_take (i := 13) (v := .tuple #[.bool sB, .bool cB]) rfl (by kernel_rfl) (by kernel_rfl) (by kernel_rfl) (fun _ _ _ h => h) (Or.inl ⟨by kernel_rfl, fun W hW => ?y10⟩) hHeld ?r10
      · go_simp
      refine' wpAnyH_take (i := 14) (v := .bool sB) rfl (by kernel_rfl) (by kernel_rfl) (by kernel_rfl) (fun _ _ _ h => h) (Or.inl ⟨by kernel_rfl, fun W hW => ?y11⟩) hHeld ?r11
      · go_simp
      refine' wpAnyH_take (i := 15) (v := .bool cB) rfl (by kernel_rfl) (by kernel_rfl) (by kernel_rfl) (fun _ _ _ h => h) (Or.inl ⟨by kernel_rfl, fun W hW => ?y12⟩) hHeld ?r12
      · go_simp
      refine' wpAnyH_take (i := 16) (v := .bool sB) rfl (by kernel_rfl) (by kernel_rfl) (by kernel_rfl) (fun _ _ _ h => h) (Or.inl ⟨by kernel_rfl, fun W hW => ?y13⟩) hHeld ?r13
      · go_simp
      simp only [List.getElem_toArray, List.getElem_cons_succ, List.getElem_cons_zero, Act.put, List.setIfInBounds_toArray, List.set_cons_zero, List.set_cons_succ]
      refine wpAnyH_ready (rs := [17]) (by kernel_rfl) (by simp) ?_
      refine AllReadyH.cons rfl (fun K hK => ?_) AllReadyH.nil
      go_simp
      have HT3 := shut hHeld
      refine hK.out _ _ hHeld (fun hHeld => ?_)
      clear hK
      refine wpAnyH_done (by kernel_rfl) ?_ _
      have HN : Shut (Turn no w1 w3) := HTr.out.then_no HT3.out
      clear hHeld t3 Ff HR F11 F41
      cases sB with
      | true =>
        have HN2 : Shut ((∀ (i : Nat) m q, i < j + 1 → L[i]? = some m → Q[i]? = some q → Alike l m q) ∧ Turn no w1 w3) := ⟨HAL.out (HSC.out.2 rfl), HN.out⟩
        clear HAL HSC
        go_wp2_with fail
        go_roundw
        case rel => exact ⟨j + 1, by omega, by go_num, HN2⟩
        case measure => simp [intOf]; omega
      | false =>
        have hcB : cB = true := by have := HSC.out.1; simpa using this
        subst hcB
        clear HAL HSC
        go_wp2_with fail
        go_ret2
        exact Sc.mk false true rfl ⟨rfl, fun h => by cases h⟩ (HT0.out.then_no (HT1.out.then_no HN.out))
    · have hlt' : ¬ (j : Int) < (n : Int) := by omega
      have HE : Shut (PX) := by
        show PX
        rw [HPX.out]
        exact fun i m q hm hq => HI.out.1 i m q (by have := (List.getElem?_eq_some_iff.1 hm).1; have := hnL.out; omega) hm hq
      have HTe := shut (HT0.out.then_no T0r)
      clear HI HAA HFO HBE HC
      go_wp2_with fail
      go_ret2
      exact Sc.mk true false rfl ⟨rfl, fun _ => HE.out⟩ HTe.out
end Go.Proofs.YtlacfenenbblaaaGreatDoor
