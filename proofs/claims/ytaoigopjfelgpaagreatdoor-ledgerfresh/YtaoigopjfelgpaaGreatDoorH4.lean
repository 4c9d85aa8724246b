/- Seats of a ledger with rows. -/
import Derived.Test.YtaoigopjfelgpaaGreatDoorLb
namespace Go.Proofs.YtaoigopjfelgpaaGreatDoor
open Go.RowKit Go.Maps
set_option linter.unusedVariables false

set_option maxRecDepth 100000 in
set_option maxHeartbeats 4000000 in
theorem seats8g (w : World) (va : Value) (pa : Option Addr) (pn pcc : Nat) (l : List Ac) (ha : As w va l) (hl : l.length * 40 ≤ 140737488355328) (hd : ∀ x ∈ l, ∀ y ∈ l, x.ad = y.ad → x = y) (b s : Int) (P : Array Value) (mb : Nat) (st : Int) (hP0 : P[0]? = some (.int .u64 mb)) (hP1 : P[1]? = some (.int .i64 st)) :
    Calls Tryz.prog 11 #[.agg #[va, .slice pa pn pcc, .int .u64 b, .int .u64 s], .agg P] w fun e w' =>
    ∃ v' q, e = .returned v' ∧ q.Perm (rivL (max mb 1) l) ∧ BySort q ∧ OwnN w' 55 3 v' (l.filter (sitB (q.take (cnt st q.length)))).length (meC (l.filter (sitB (q.take (cnt st q.length))))) ∧ Turn no w w' := by
  have HL := shut hl
  have HD := shut hd
  have HA := shut ha
  obtain ⟨a, cap, rfl, h⟩ := ha
  obtain ⟨w0, hw0⟩ : ∃ w0, (w.alloc (.cells #[.slice a l.length cap, .slice pa pn pcc, .int .u64 b, .int .u64 s] 30)).alloc (.cells P 25) = w0 := ⟨_, rfl⟩
  have T0 : Turn no w w0 := by rw [← hw0]; exact ((Turn.refl no w).alloc _).alloc _
  have g0 : w0.cell? ⟨w.heap.size, 0, none⟩ = some (.slice a l.length cap) := by rw [← hw0]; simp
  have RP : w0.heap[w.heap.size + 1]? = some (.cells P 25 (0, 0)) := by
    rw [← hw0]
    have := heap_alloc_new (w.alloc (.cells #[.slice a l.length cap, .slice pa pn pcc, .int .u64 b, .int .u64 s] 30)) (.cells P 25)
    simpa using this
  have p0 : w0.cell? ⟨w.heap.size + 1, 0, none⟩ = some (.int .u64 mb) := (cell_of_row _ _ 0 _ 25 (0, 0) RP).trans hP0
  have p1 : w0.cell? ⟨w.heap.size + 1, 1, none⟩ = some (.int .i64 st) := (cell_of_row _ _ 1 _ 25 (0, 0) RP).trans hP1
  have hr := rivals24 w0 _ l (HA.out.turn_no T0) (max mb 1) hl
  have hmx : ((max mb 1 : Nat) : Int) = max (mb : Int) 1 := by omega
  rw [hmx] at hr
  have HT0 := shut T0
  have HW : Shut (w.heap.size + 2 ≤ w0.heap.size) := by show _ ≤ _; rw [← hw0]; simp
  clear T0 h RP hP0 hP1 hl hd
  go_enter Tryz.func11, Tryz.ntmps11
  go_wp2_with fail
  refine hr.mono ?_
  rintro e w1 ⟨v1, rfl, O1, f1, t1⟩
  have hok : ∀ m ∈ rivL (max mb 1) l, m.ok := fun m hm => by
    obtain ⟨_, _, _, h⟩ := HA.out
    exact h.ok m (List.mem_filter.1 hm).1
  have hRl : (rivL (max mb 1) l).length ≤ 140737488355328 := by
    have := rivL_len (max mb 1) l
    have := HL.out
    omega
  have hs := sort25 w1 v1 _ O1 hok hRl
  have g0 := t1.keep g0 (fun q => q)
  have p1 := t1.keep p1 (fun q => q)
  have HT1 := shut (HT0.out.then_no t1)
  have HW1 : Shut (w.heap.size + 2 ≤ w1.heap.size) := Nat.le_trans HW.out t1.size
  have HF : Shut (∀ g, v1.ownBlock = some g → w.heap.size + 2 ≤ g) := fun g hg => Nat.le_trans HW.out (f1 g hg)
  obtain ⟨a1, cap1, e1, _⟩ := id O1.form
  subst e1
  have HRL : Shut (∀ m ∈ rivL (max mb 1) l, m ∈ l) := fun m hm => (List.mem_filter.1 hm).1
  generalize hrl : rivL (max mb 1) l = rl at *
  have HRLE := shut hrl
  clear hrl
  clear hr t1 p0 HW O1 f1 hw0 HT0 hok hRl hmx
  go_wp2_with fail
  refine hs.mono ?_
  rintro e w2 ⟨rfl, q, hq, hsq, A2, t2⟩
  have HQ := shut hq
  have HSQ := shut hsq
  have hql : q.length = rl.length := hq.length_eq
  have A2' : As w2 (.slice a1 q.length cap1) q := by rw [hql]; exact A2
  have g0 := t2.keep g0 (fun z => by have h1 := HF.out _ z; have h2 : w.heap.size + 2 ≤ w.heap.size := h1; omega)
  have p1 := t2.keep p1 (fun z => by have h1 := HF.out _ z; have h2 : w.heap.size + 2 ≤ w.heap.size + 1 := h1; omega)
  have HT2 : Shut (Turn no w w2) := HT1.out.trans t2 (fun i hi z => by have := HF.out _ z; omega)
  have HW2 : Shut (w.heap.size + 2 ≤ w2.heap.size) := Nat.le_trans HW1.out t2.size
  rw [← hql]
  clear hs hq hsq A2 t2 HT1 HW1 hql
  obtain ⟨n, hn⟩ : ∃ n, Hid (q.length = n) := ⟨_, rfl⟩
  have hn' : q.length = n := hn.out
  rw [hn']
  rw [hn'] at A2'
  have m1 := fun W => run_makeMap (P := Tryz.prog) 84 W
  clear hn'
  obtain ⟨c, hc⟩ : ∃ c, Hid (cnt st n = c) := ⟨_, rfl⟩
  have hcn : c ≤ n := by rw [← hc.out]; exact cnt_le st n
  have hnc : n ≤ cap1 := by
    obtain ⟨_, _, e, h⟩ := A2'
    have := h.le
    have e' := hn.out
    simp at e
    omega
  have hcc : (0 : Int) ≤ (c : Int) ∧ (c : Int) ≤ (cap1 : Int) := by omega
  have hcases : (st ≤ 64 ∧ st ≤ (n : Int) ∧ max 0 st = (c : Int)) ∨ (st ≤ 64 ∧ ¬ st ≤ (n : Int) ∧ max 0 (n : Int) = (c : Int)) ∨ (¬ st ≤ 64 ∧ (64 : Int) ≤ (n : Int) ∧ max 0 (64 : Int) = (c : Int)) ∨ (¬ st ≤ 64 ∧ ¬ (64 : Int) ≤ (n : Int) ∧ max 0 (n : Int) = (c : Int)) := by
    have := hc.out
    unfold cnt at this
    omega
  have HA2 := shut A2'
  have HCN := shut hcn
  have hc64 : c ≤ 64 := by have := hc.out; unfold cnt at this; omega
  clear A2' hcn hnc
  rcases hcases with ⟨k1, k2, k3⟩ | ⟨k1, k2, k3⟩ | ⟨k1, k2, k3⟩ | ⟨k1, k2, k3⟩
  all_goals
    go_wp2_with fail
    have t3 : Turn no w2 (w2.alloc (.map #[] 0)) := (Turn.refl no w2).alloc _
    have o3 := World.ownsMap_made w2 Tryz.prog 26 heldElem
    have hMg : ∀ k, k = w2.heap.size → w2.heap.size ≤ k := fun k e => by omega
    have hg0 : ¬ w.heap.size = w2.heap.size := by have := HW2.out; omega
    have HK : Shut (∀ W, Turn (fun k => k = w2.heap.size) w2 W → W.cell? ⟨w.heap.size, 0, none⟩ = some (.slice a l.length cap) ∧ As W (.slice a1 n cap1) q ∧ As W (.slice a l.length cap) l ∧ Turn no w W) := fun W t =>
      ⟨t.keep g0 hg0, HA2.out.turn_ge t hMg, (HA.out.turn_no HT2.out).turn_ge t hMg, HT2.out.trans t (fun i hi e => by have := HW2.out; omega)⟩
    have HOQ := shut HA2.out.oks
    have HT3 := shut t3
    have HO3 := shut o3
    clear t3 o3 hMg hg0 g0 p1 m1 HA2 k1 k2 k3 hcc
    generalize w2.alloc (.map #[] 0) = w3 at *
    obtain ⟨M, hM⟩ : ∃ M, w2.heap.size = M := ⟨_, rfl⟩
    rw [hM] at HO3 HK
    simp only [hM]
    have HM := shut hM
    clear hM
    go_loopw [34] (fun x wr => ∃ k : Nat, k ≤ c ∧ x = .int .i64 k ∧ Shut (Turn (fun z => z = M) w2 wr ∧ wr.ownsMap Tryz.prog 26 heldElem M k (mapOf (q.take k)))) (fun x _ => c - (intOf x).toNat)
    case atStart => exact ⟨0, by omega, rfl, HT3.out.of_no, HO3.out⟩
    case round =>
      obtain ⟨k, hk, rfl, HI⟩ := hrel
      by_cases hlt : k < c
      · have hkq : k < q.length := by rw [hn.out]; have := HCN.out; omega
        obtain ⟨y, hy⟩ : ∃ y, q[k]? = some y := ⟨q[k]'hkq, List.getElem?_eq_getElem _⟩
        obtain ⟨bb, off, rfl, c0, c1, c2, c3, c4⟩ := (HK.out wr HI.out.1).2.1.cells k y hy
        have hyk : y.ok := HOQ.out y (List.mem_of_getElem? hy)
        have hlt' : (k : Int) < (c : Int) := by omega
        have hk1 : Hid (k + 1 ≤ c) := hlt
        have t4 : Turn no wr (wr.alloc (.cells #[.int .u64 y.ad, .int .u64 y.bal, .int .u64 y.bond, .int .u64 y.nonce, .bool y.jail] 50)) := (Turn.refl no wr).alloc _
        obtain ⟨w4, hst, o4, mt⟩ := (ownsMap_turn HI.out.2 t4 (fun q => q)).store law35 Tryz.underlying84 (by simp only [maxLen]; omega) (key35 y.ad hyk.1) (val := .int .u64 y.bond) (d := .held (.int .u64 y.bond)) (ps := []) rfl
        have hst : (Instr.mapUpdate 84 (.map (some M)) (.int .u64 y.ad) (.int .u64 y.bond)).run Tryz.prog (wr.alloc (.cells #[.int .u64 y.ad, .int .u64 y.bal, .int .u64 y.bond, .int .u64 y.nonce, .bool y.jail] 50)) = .ok () w4 := hst
        have HN : Shut (Turn (fun z => z = M) w2 w4 ∧ w4.ownsMap Tryz.prog 26 heldElem M (k + 1) (mapOf (q.take (k + 1)))) := ⟨(HI.out.1.then_no t4).trans (mapTurn mt) (fun _ _ e => e), by rw [mapOf_take hy]; exact o4⟩
        clear t4 o4 mt hy hyk HK
        go_wp2_with fail
        go_roundw
        case rel => exact ⟨k + 1, hk1.out, by go_num, HN⟩
        case measure => have := hk1.out; simp [intOf]; omega
      · have hkc : c = k := by omega
        subst hkc
        have hlt' : ¬ (c : Int) < (c : Int) := by omega
        obtain ⟨g0, _, _, _⟩ := HK.out wr HI.out.1
        have HK2 : Shut (∀ W, Turn no wr W → As W (.slice a l.length cap) l ∧ W.ownsMap Tryz.prog 26 heldElem M c (mapOf (q.take c)) ∧ Turn no w W) := fun W t => ⟨(HK.out wr HI.out.1).2.2.1.turn_no t, ownsMap_turn HI.out.2 t (fun q => q), (HK.out wr HI.out.1).2.2.2.then_no t⟩
        have HOL := shut HA.out.oks
        have HNN : Shut (q.take (cnt st q.length) = q.take c) := by
          have h1 := hn.out
          have h2 := hc.out
          show _ = _
          rw [h1, h2]
        have HSIT : Shut (∀ y ∈ l, sitB (q.take c) y = true → y ∈ q.take c) := fun y hy h => by
          unfold sitB at h
          obtain ⟨x, hx, hxy⟩ := List.any_eq_true.1 h
          have e : x.ad = y.ad := by simpa using hxy
          have : x = y := HD.out x (HRL.out x (HQ.out.mem_iff.1 (List.mem_of_mem_take hx))) y hy e
          rw [← this]
          exact hx
        have HUNI : Shut (∀ y ∈ l, ∀ x ∈ q.take c, x.ad = y.ad → x = y) := fun y hy x hx e => HD.out x (HRL.out x (HQ.out.mem_iff.1 (List.mem_of_mem_take hx))) y hy e
        obtain ⟨N, hN⟩ : ∃ N, Hid (l.length = N) := ⟨_, rfl⟩
        have hN' := hN.out
        have hNb : N ≤ 140737488355328 := by have := HL.out; omega
        rw [hN'] at g0 HK2
        rw [hN']
        clear hN' HK HI HCN HO3 HT3 HOQ hlt hk hc64 HRL HD
        generalize q.take c = qc at *
        go_wp2_with fail
        obtain ⟨wo, rfl⟩ : ∃ wo : World, wo = wr := ⟨_, rfl⟩
        clear g0
        go_loopw [10, 47] (fun r x wr => ∃ j : Nat, j ≤ N ∧ x = .int .i64 j ∧ (∃ ra rn rc, r = .slice ra rn rc) ∧ Shut (OwnN wr 55 3 r ((l.take j).filter (sitB qc)).length (meC ((l.take j).filter (sitB qc))) ∧ (∀ g, r.ownBlock = some g → wo.heap.size ≤ g) ∧ Turn no wo wr)) (fun _ x _ => N - (intOf x).toNat)
        case atStart => exact ⟨0, by omega, rfl, ⟨_, _, _, rfl⟩, OwnN.nil _ 55 3, (fun g hg => by cases hg), Turn.refl _ _⟩
        case round =>
          obtain ⟨j, hj, rfl, ⟨ra, rn, rc, rfl⟩, HI⟩ := hrel
          by_cases hjN : j < N
          · obtain ⟨y, hy⟩ : ∃ y, l[j]? = some y := ⟨l[j]'(by rw [hN.out]; exact hjN), List.getElem?_eq_getElem _⟩
            obtain ⟨hA, hO, _⟩ := HK2.out wr HI.out.2.2
            obtain ⟨bb, off, rfl, c0, c1, c2, c3, c4⟩ := hA.cells j y hy
            have hyl : y ∈ l := List.mem_of_getElem? hy
            have hyk : y.ok := HOL.out y hyl
            have hlt2 : (j : Int) < (N : Int) := by omega
            have hj1 : Hid (j + 1 ≤ N) := hjN
            have t5 : Turn no wr (wr.alloc (.cells #[.int .u64 y.ad, .int .u64 y.bal, .int .u64 y.bond, .int .u64 y.nonce, .bool y.jail] 50)) := (Turn.refl no wr).alloc _
            obtain ⟨vv, ps, hlk, hv⟩ := (ownsMap_turn hO t5 (fun q => q)).look_ok law35 Tryz.underlying84 (zero23 _) (zd := .held (.int .u64 0)) (zp := []) rfl (key35 y.ad hyk.1)
            rw [has_of] at hlk
            have HTK : Shut ((l.take (j + 1)).filter (sitB qc) = (l.take j).filter (sitB qc) ++ (if sitB qc y then [y] else [])) := by
              obtain ⟨hk, rfl⟩ := List.getElem?_eq_some_iff.1 hy
              show _ = _
              rw [List.take_succ_eq_append_getElem hk, List.filter_append, List.filter_cons, List.filter_nil]
            by_cases hsit : sitB qc y = true
            · have ev : vv = .int .u64 y.bond := by
                have h1 := held_inv hv
                rw [at_of y qc _ (HSIT.out y hyl hsit) (HUNI.out y hyl)] at h1
                simpa using h1.symm
              subst ev
              have hsit' : qc.any (fun m => decide (m.ad = y.ad)) = true := hsit
              rw [hsit'] at hlk
              have hlk : (Instr.lookup 84 (.map (some M)) (.int .u64 y.ad) true).run Tryz.prog (wr.alloc (.cells #[.int .u64 y.ad, .int .u64 y.bal, .int .u64 y.bond, .int .u64 y.nonce, .bool y.jail] 50)) = .ok (.tuple #[.int .u64 y.bond, .bool true]) (wr.alloc (.cells #[.int .u64 y.ad, .int .u64 y.bal, .int .u64 y.bond, .int .u64 y.nonce, .bool y.jail] 50)) := hlk
              have hs1 := src_mem (wr.alloc (.cells #[.int .u64 y.ad, .int .u64 y.bal, .int .u64 y.bond, .int .u64 y.nonce, .bool y.jail] 50)) y
              rw [show (wr.alloc (.cells #[.int .u64 y.ad, .int .u64 y.bal, .int .u64 y.bond, .int .u64 y.nonce, .bool y.jail] 50)).heap.size = wr.heap.size + 1 by simp] at hs1
              have t6 : Turn no wr ((wr.alloc (.cells #[.int .u64 y.ad, .int .u64 y.bal, .int .u64 y.bond, .int .u64 y.nonce, .bool y.jail] 50)).alloc (.cells #[.int .u64 y.ad, .int .u64 y.bond, .int .i64 0] 55)) := t5.alloc _
              have HT6 := shut t6
              have ho1 := HI.out.1.turn_no t6
              have hle : ((l.take j).filter (sitB qc)).length ≤ j := by
                have h1 := List.length_filter_le (sitB qc) (l.take j)
                rw [List.length_take] at h1
                omega
              have hbig : (((l.take j).filter (sitB qc)).length + 1) * 24 ≤ 140737488355328 := by have := HL.out; have := hN.out; omega
              have hmx : ((l.take j).filter (sitB qc)).length + 1 ≤ maxLen := by simp only [maxLen]; omega
              have HTS : Shut ((l.take (j + 1)).filter (sitB qc) = (l.take j).filter (sitB qc) ++ [y]) := by
                have := HTK.out
                rw [if_pos hsit] at this
                exact this
              clear t5 t6 hv hA hO hy hyl hyk hsit hsit' HTK hle
              generalize (l.take j).filter (sitB qc) = fl at *
              go_wp2_with (at_builtin; refine wpList_append_srcN rfl _ _ rfl Tryz.underlying37 info37 rfl (by omega) (.slice ra rn rc) fl.length (meC fl) rfl ho1 _ 1 (meC [y]) rfl hs1 hbig hmx ?_; intro v2 w5 O2 G2)
              obtain ⟨a2, cap2, e2, _⟩ := O2.form
              refine ⟨⟨j + 1, hj1.out, by go_num, ⟨_, _, _, e2⟩, ?_, G2.fresh HI.out.2.1 ?_, (HI.out.2.2.then_no HT6.out).fresh G2 HI.out.2.1⟩, ?_⟩
              · rw [HTS.out, List.length_append, meC_append]
                exact O2
              · have h1 := HI.out.2.2.size
                have h2 := HT6.out.size
                omega
              · have := hj1.out
                simp [intOf]
                omega
            · have hsit' : qc.any (fun m => decide (m.ad = y.ad)) = false := by simpa [sitB] using hsit
              rw [hsit'] at hlk
              have hlk : (Instr.lookup 84 (.map (some M)) (.int .u64 y.ad) true).run Tryz.prog (wr.alloc (.cells #[.int .u64 y.ad, .int .u64 y.bal, .int .u64 y.bond, .int .u64 y.nonce, .bool y.jail] 50)) = .ok (.tuple #[vv, .bool false]) (wr.alloc (.cells #[.int .u64 y.ad, .int .u64 y.bal, .int .u64 y.bond, .int .u64 y.nonce, .bool y.jail] 50)) := hlk
              have HN : Shut (OwnN (wr.alloc (.cells #[.int .u64 y.ad, .int .u64 y.bal, .int .u64 y.bond, .int .u64 y.nonce, .bool y.jail] 50)) 55 3 (.slice ra rn rc) ((l.take (j + 1)).filter (sitB qc)).length (meC ((l.take (j + 1)).filter (sitB qc))) ∧ (∀ g, (Value.slice ra rn rc).ownBlock = some g → wo.heap.size ≤ g) ∧ Turn no wo (wr.alloc (.cells #[.int .u64 y.ad, .int .u64 y.bal, .int .u64 y.bond, .int .u64 y.nonce, .bool y.jail] 50))) := by
                have e := HTK.out
                rw [if_neg hsit, List.append_nil] at e
                show _ ∧ _ ∧ _
                rw [e]
                exact ⟨HI.out.1.turn_no t5, HI.out.2.1, HI.out.2.2.then_no t5⟩
              clear t5 hv hA hO hy hyl hyk hsit hsit' HTK
              go_wp2_with fail
              go_roundw
              case rel => exact ⟨j + 1, hj1.out, by go_num, ⟨_, _, _, rfl⟩, HN⟩
              case measure => have := hj1.out; simp [intOf]; omega
          · have hjN' : N = j := by omega
            subst hjN'
            have hlt2 : ¬ (N : Int) < (N : Int) := by omega
            have HF : Shut (l.take N = l) := List.take_of_length_le (by rw [hN.out]; exact Nat.le_refl _)
            have HTT := shut (HK2.out wr HI.out.2.2).2.2
            go_wp2_with fail
            go_ret
            have h := HI.out.1
            rw [HF.out] at h
            exact ⟨_, rfl, q, by rw [HRLE.out]; exact HQ.out, HSQ.out, by rw [HNN.out]; exact h, HTT.out⟩
end Go.Proofs.YtaoigopjfelgpaaGreatDoor

