/- SealOnce: the walk. -/
import Derived.Test.YtnlcngcilojnkaaDoorU3
namespace Go.Proofs.YtnlcngcilojnkaaDoor
open Go.RowKit Go.Maps Go.MuLone
set_option linter.unusedVariables false

theorem Ml.form {old : Nat} {w : World} {v : Value} {ts : List (Value × List UInt8)} (h : Ml old w v ts) : ∃ a c, v = .slice a ts.length c ∧ ts.length ≤ c ∧ c ≤ 9223372036854775807 ∧ (a = none → ts = []) := by
  rcases h.own.shape with ⟨rfl, q⟩ | ⟨g, cap, cur, rfl, _, h1, h2, _⟩
  · have : ts = [] := List.map_eq_nil_iff.1 q
    subst this
    exact ⟨none, 0, rfl, by simp, by simp, fun _ => rfl⟩
  · rw [List.length_map] at h1
    exact ⟨some ⟨g, 0, none⟩, cap, by simp, h1, by simpa [maxLen] using h2, fun q => by cases q⟩
theorem Own.u64 {w : World} {va : Value} {E : List UInt64} (ho : Own w 29 va (E.map u64V)) : ∃ aa cp, va = .slice aa E.length cp ∧ E.length ≤ cp ∧ ∀ j u, E[j]? = some u → ∃ g, aa = some ⟨g, 0, none⟩ ∧ w.cell? ⟨g, j, none⟩ = some (.int .u64 u.toNat) := by
  rcases ho.shape with ⟨rfl, q⟩ | ⟨g, cap, cur, rfl, _, h1, _⟩
  · have : E = [] := List.map_eq_nil_iff.1 q
    subst this
    exact ⟨none, 0, rfl, by simp, fun j u hu => by simp at hu⟩
  · exact ⟨_, cap, by simp, by simpa using h1, fun j u hu => ⟨g, rfl, ho.cell j (u64V u) (by simp [hu])⟩⟩

set_option maxRecDepth 100000 in
set_option maxHeartbeats 8000000 in
theorem once_walk (w : World) (v : Value) (l : List Opx) (cut : Int) (hS : Script w v l) (hl1 : Laid1 w) (h2 : 2 ≤ w.heap.size) (hl : l.length ≤ 1599289640401) :
    Calls Tryd.prog 8 #[v, .int .i64 cut] w fun e w' => e = .returned (.bool true) ∧ Turn no w w' := by
  obtain ⟨va, vc, hv, _, hcap, hle⟩ := hS.slice
  subst hv
  have har := around22 w cut (l.length + 1) (by omega) (by omega)
  have hkl := around_lt cut (l.length + 1) (by omega)
  obtain ⟨kk, hkk⟩ : ∃ kk, Shut (around cut (l.length + 1) = kk) := ⟨_, rfl⟩
  rw [show around cut (l.length + 1) = kk from hkk.out] at har hkl
  have hw1 := watch20 w _ (l.take kk) (hS.take kk (by omega)) hl1 h2 (by rw [List.length_take]; omega)
  have hw2 := fun W (T : Turn no w W) => watch20 W _ l (hS.turn_no T) (hl1.turn T (fun q => q)) (by have := T.size; omega) hl
  obtain ⟨C, hC⟩ := runA_more l kk
  have hok := abOk_run l
  have hlB : (runA l).B.length ≤ l.length := by
    have := (runA_len l l.length (Nat.le_refl _)).2
    rwa [List.take_length] at this
  have hlBv : (runA (l.take kk)).B.length ≤ l.length := by rw [hC, List.length_append] at hlB; omega
  obtain ⟨n, hn⟩ : ∃ n, Shut (l.length = n) := ⟨_, rfl⟩
  rw [show l.length = n from hn.out] at har hkl hl hcap hle hlB hlBv ⊢
  simp only [show l.length = n from hn.out] at hw2
  have e1 : ((n + 1 : Nat) : Int) = (n : Int) + 1 := by omega
  rw [e1] at har
  have hk1 : kk ≤ vc := by omega
  have hk2 : (kk : Int) ≤ (vc : Int) := by omega
  obtain ⟨B, hB⟩ : ∃ B, Shut ((runA l).B = B) := ⟨_, rfl⟩
  obtain ⟨Bv, hBv⟩ : ∃ Bv, Shut ((runA (l.take kk)).B = Bv) := ⟨_, rfl⟩
  rw [show (runA l).B = B from hB.out] at hC hlB
  rw [show (runA (l.take kk)).B = Bv from hBv.out] at hC hlBv
  have hCS : Shut (B = Bv ++ C) := hC
  clear hC hS e1
  go_enter Tryd.func8, Tryd.ntmps8
  go_wp2_with fail
  refine har.mono ?_
  rintro e w' ⟨rfl, e1⟩
  have e1 := e1.symm
  subst e1
  go_wp2_with fail
  refine hw1.mono ?_
  rintro e w1 ⟨sv, dv, vv, rfl, S1, _, T1⟩
  go_wp2_with fail
  refine (hw2 w1 T1).mono ?_
  rintro e w2 ⟨sw, d, vb, rfl, S2, hE, T2⟩
  have TW : Twain w w1.heap.size sv dv vv Bv sw d vb B w2 := ⟨by rw [← hBv.out]; exact S1.turn_no T2, S1.low, by rw [← hB.out]; exact S2, T1.size, T1.then_no T2⟩
  have hEnd : ∀ k, (d k).E.Nodup := fun k => by rw [hE]; exact hok.nd k
  have hEin : ∀ k, ∀ r ∈ recs B k, r.1 ∈ (d k).E := fun k r hr => by
    rw [hE]
    have := (mem_recs B k r).1 hr
    rw [← hB.out] at this
    exact hok.inn _ this
  generalize w1.heap.size = M at *
  clear S1 S2 T1 T2 hw1 hw2 har hE hok
  go_wp2_with fail
  obtain ⟨wo, hwo⟩ : ∃ wo, wo = w := ⟨_, rfl⟩
  go_loopw [10] (fun c wr => ∃ who : Nat, who ≤ 2 ∧ c = .int .i64 who ∧ Twain w M sv dv vv Bv sw d vb B wr) (fun c _ => 2 - (intOf c).toNat)
  case atStart => exact ⟨0, by omega, rfl, TW⟩
  case round =>
    clear TW
    obtain ⟨who, hwh, rfl, TW⟩ := hrel
    by_cases hlt : who < 2
    · have hlt' : (who : Int) < 2 := by omega
      obtain ⟨aa, cp, hva, hcpE, _⟩ := (TW.s2.side who hlt).oa.u64
      have hnEm : (d who).E.length ≤ 9223372036854775807 := by
        rcases (TW.s2.side who hlt).oa.shape with ⟨_, q⟩ | ⟨_, cap, _, _, _, h1, h2, _⟩
        · have : (d who).E = [] := List.map_eq_nil_iff.1 q
          simp [this]
        · rw [List.length_map] at h1
          simp only [maxLen] at h2
          omega
      have hRl : (recs B who).length ≤ 1599289640401 := by have := recs_len B who; omega
      have hRvl : (recs Bv who).length ≤ 1599289640401 := by have := recs_len Bv who; omega
      have hR : ∀ r ∈ recs B who, r.2.length ≤ 1048576 := fun r hr => (TW.s2.who _ ((mem_recs B who r).1 hr)).2
      have hRv : ∀ r ∈ recs Bv who, r.2.length ≤ 1048576 := fun r hr => (TW.s1.who _ ((mem_recs Bv who r).1 hr)).2
      have hsum := sum_txs (d who).E (hEnd who) (recs B who) (hEin who)
      have hsle := fun i => sum_take_le (d who).E (fun a => (txs (recs B who) a).length) i
      have hpre : ∀ a, txs (recs B who) a = txs (recs Bv who) a ++ txs (recs C who) a := fun a => by rw [hCS.out, recs_app, txs_app]
      obtain ⟨f, hf⟩ : ∃ f : UInt64 → Nat, Shut (f = fun a => (txs (recs B who) a).length) := ⟨_, rfl⟩
      rw [← show f = fun a => (txs (recs B who) a).length from hf.out] at hsum
      simp only [← show f = fun a => (txs (recs B who) a).length from hf.out] at hsle
      rw [hsum] at hsle
      obtain ⟨nE, hnE⟩ : ∃ nE, Shut ((d who).E.length = nE) := ⟨_, rfl⟩
      rw [show (d who).E.length = nE from hnE.out] at hva hcpE hnEm
      obtain ⟨nR, hnR⟩ : ∃ nR, Shut ((recs B who).length = nR) := ⟨_, rfl⟩
      rw [show (recs B who).length = nR from hnR.out] at hsum hsle hRl
      have hsumS : Shut (((d who).E.map f).sum = nR) := hsum
      have hsleS : Shut (∀ i, (((d who).E.take i).map f).sum ≤ nR) := hsle
      have hpreS : Shut (∀ a, txs (recs B who) a = txs (recs Bv who) a ++ txs (recs C who) a) := hpre
      have hvaS : Shut ((d who).va = .slice aa nE cp) := hva
      clear hsum hsle hpre hva
      go_wp2_with fail
      obtain ⟨wa, hwa⟩ : ∃ wa, wa = wr := ⟨_, rfl⟩
      subst hwa
      go_loopw [11, 12] (fun sm c wr => ∃ i : Nat, i ≤ nE ∧ c = .int .i64 i ∧ sm = .int .i64 ((((d who).E.take i).map f).sum : Nat) ∧ Twain w M sv dv vv Bv sw d vb B wr) (fun _ c _ => nE - (intOf c).toNat)
      case atStart => exact ⟨0, Nat.zero_le _, rfl, by simp, TW⟩
      case round =>
        clear TW
        obtain ⟨i, hi, rfl, rfl, TW⟩ := hrel
        have c4 : wr.cell? ⟨sw, 4 + who, none⟩ = some (.slice aa nE cp) := by rw [← show (d who).va = .slice aa nE cp from hvaS.out]; exact TW.s2.c4 hlt
        have c0 := TW.s2.c0 hlt
        have hsi := hsleS.out i
        by_cases hlti : i < nE
        · have hlti' : (i : Int) < (nE : Int) := by omega
          obtain ⟨a, ha⟩ : ∃ a, (d who).E[i]? = some a := ⟨(d who).E[i]'(by rw [hnE.out]; exact hlti), List.getElem?_eq_getElem _⟩
          have hain : a ∈ (d who).E := List.mem_of_getElem? ha
          obtain ⟨aa', cp', e', _, hcell⟩ := (TW.s2.side who hlt).oa.u64
          obtain ⟨g, eg, ca⟩ := hcell i a ha
          obtain rfl : aa = some ⟨g, 0, none⟩ := by
            rw [show (d who).va = .slice aa nE cp from hvaS.out] at e'
            cases e'
            exact eg
          have hst := sum_take (d who).E f i a ha
          have hsi1 := hsleS.out (i + 1)
          rw [hst] at hsi1
          have hfa : f a = (txs (recs B who) a).length := by rw [hf.out]
          have hstS : Shut ((((d who).E.take (i + 1)).map f).sum = (((d who).E.take i).map f).sum + f a) := hst
          obtain ⟨sg, hsg⟩ : ∃ sg, Shut ((((d who).E.take i).map f).sum = sg) := ⟨_, rfl⟩
          rw [show (((d who).E.take i).map f).sum = sg from hsg.out] at hstS hsi hsi1 ⊢
          have hw3 := signed23 (TW.s2.side who hlt).bk a hR (by rw [hnR.out]; exact hRl)
          clear hcell e' eg hst
          go_wp2_with fail
          refine hw3.mono ?_
          rintro e w3 ⟨v3, ts3, rfl, M3, e3, B3, t3⟩
          have TW3 := TW.two hlt t3 B3
          have hpv : (dv who).p < wr.heap.size := (TW.s1.side who hlt).lt (.inl (.inl rfl))
          have hpw : (d who).p < wr.heap.size := (TW.s2.side who hlt).lt (.inl (.inl rfl))
          have hw4 := signed23 (TW3.s1.side who hlt).bk a hRv hRvl
          have c03 := TW3.s1.c0 hlt
          have hs3 := t3.size
          obtain ⟨a3, p3, hv3, hp3, hp3', ha3⟩ := M3.form
          obtain ⟨n3, hn3⟩ : ∃ n3, Shut (ts3.length = n3) := ⟨_, rfl⟩
          rw [show ts3.length = n3 from hn3.out] at hv3 hp3
          subst hv3
          clear hw3 c0 c4 ca TW B3 t3
          go_wp2_with fail
          refine hw4.mono ?_
          rintro e w4 ⟨v4, ts4, rfl, M4, e4, B4, t4⟩
          have TW4 := TW3.one hlt t4 B4
          have M34 := M3.turn t4 (fun g hg q => by omega)
          have hkn := (TW4.s2.side who hlt).bk.known a
          rw [show decide (a ∈ (d who).E) = true by simpa using hain] at hkn
          have c04 := TW4.s2.c0 hlt
          obtain ⟨a4, p4, hv4, hp4, hp4', ha4⟩ := M4.form
          obtain ⟨n4, hn4⟩ : ∃ n4, Shut (ts4.length = n4) := ⟨_, rfl⟩
          rw [show ts4.length = n4 from hn4.out] at hv4 hp4
          subst hv4
          have hpa := hpreS.out a
          rw [← e3, ← e4] at hpa
          have h34 : n4 ≤ n3 := by
            have := congrArg List.length hpa
            simp only [List.length_map, List.length_append] at this
            rw [show ts3.length = n3 from hn3.out, show ts4.length = n4 from hn4.out] at this
            omega
          have h34' : ¬ (n3 : Int) < (n4 : Int) := by omega
          have h34n : ¬ n3 < n4 := by omega
          have h34c : (n4 : Int) ≤ (p3 : Int) := by omega
          have h34d : n4 ≤ p3 := by omega
          have hsame : (ts3.take n4).map (·.2) = ts4.map (·.2) := by
            rw [List.map_take, hpa, ← show ts4.length = n4 from hn4.out]
            have : (ts4.map (·.2)).length = ts4.length := by simp
            rw [← this]
            exact List.take_left
          have hsameS : Shut ((ts3.take n4).map (·.2) = ts4.map (·.2)) := hsame
          clear hw4 c03 TW3 B4 t4 hpa hsame M3
          go_wp2_with fail
          refine hkn.mono ?_
          rintro e w5 ⟨rfl, B5, t5⟩
          have TW5 := TW4.two hlt t5 B5
          have M35 := M34.turn t5 (fun g hg q => by omega)
          have M45 := M4.turn t5 (fun g hg q => by omega)
          have hsm := same24 w5 _ _ (ts3.take n4) ts4 (M35.msl.take n4 (by rw [hn3.out]; exact h34)) M45.msl hsameS.out
          clear hkn c04 TW4 B5 t5 M34 M4
          go_wp2_with fail
          refine hsm.mono ?_
          rintro e w6 ⟨rfl, t6⟩
          have TW6 := TW5.no t6
          have M6 := M35.turn_no t6
          clear TW5 t6 M35 M45 hsm
          generalize wr.heap.size = old at *
          obtain ⟨wb, hwb⟩ : ∃ wb, wb = wr := ⟨_, rfl⟩
          subst hwb
          obtain ⟨ab, cb, hvb, hnB', _⟩ := book_at TW6.s2.book
          obtain ⟨nB, hnB⟩ : ∃ nB, Shut (B.length = nB) := ⟨_, rfl⟩
          rw [show B.length = nB from hnB.out] at hvb hnB'
          have hvbS : Shut (vb = .slice ab nB cb) := hvb
          have he3 : Shut (ts3.map (·.2) = txs (recs B who) a) := e3
          have he4 : Shut (ts4.map (·.2) = txs (recs Bv who) a) := e4
          clear hvb e3 e4
          go_wp2_with fail
          go_loopw [16, 17] (fun at_ c wr => ∃ j : Nat, j ≤ nB ∧ c = .int .i64 j ∧ at_ = .int .i64 ((txs (recs (B.take j) who) a).length : Nat) ∧ Twain w M sv dv vv Bv sw d vb B wr ∧ Ml old wr (.slice a3 n3 p3) ts3) (fun _ c _ => nB - (intOf c).toNat)
          case atStart => exact ⟨0, Nat.zero_le _, rfl, by simp [recs, txs], TW6, M6⟩
          case round =>
            clear TW6 M6
            obtain ⟨j, hj, rfl, rfl, TW7, M7⟩ := hrel
            have c6 : wr.cell? ⟨sw, 6, none⟩ = some (.slice ab nB cb) := by rw [← show vb = .slice ab nB cb from hvbS.out]; exact TW7.s2.c6
            by_cases hltj : j < nB
            · have hltj' : (j : Int) < (nB : Int) := by omega
              obtain ⟨⟨kx, ax, sx⟩, hx⟩ : ∃ x, B[j]? = some x := ⟨B[j]'(by rw [hnB.out]; exact hltj), List.getElem?_eq_getElem _⟩
              obtain ⟨ab', cb', eb', _, hbc⟩ := book_at TW7.s2.book
              obtain ⟨gb, egb, q0, q1, q2⟩ := hbc j _ hx
              simp only at q0 q1 q2
              obtain rfl : ab = some ⟨gb, 0, none⟩ := by
                rw [show vb = .slice ab nB cb from hvbS.out] at eb'
                cases eb'
                exact egb
              clear hbc eb' egb
              have miss := at_miss B who a j _ hx
              simp only at miss
              have hit := at_hit B who a j
              obtain ⟨at7, hat7⟩ : ∃ at7, Shut ((txs (recs (B.take j) who) a).length = at7) := ⟨_, rfl⟩
              rw [show (txs (recs (B.take j) who) a).length = at7 from hat7.out] at hit ⊢
              have missS : Shut (¬ (kx = who ∧ ax = a) → (txs (recs (B.take (j + 1)) who) a).length = at7) := fun h => by rw [miss h]; exact hat7
              have hitS : Shut (∀ s, B[j]? = some (who, a, s) → (txs (recs (B.take (j + 1)) who) a).length = at7 + 1 ∧ (txs (recs B who) a)[at7]? = some s) := fun s h => by
                obtain ⟨h1, h2⟩ := hit s h
                refine ⟨?_, h2⟩
                rw [h1, List.length_append, show (txs (recs (B.take j) who) a).length = at7 from hat7.out]
                rfl
              have hxS : Shut (B[j]? = some (kx, ax, sx)) := hx
              clear miss hit hx hat7
              by_cases hkx : kx = who
              · have hkx := hkx.symm
                subst hkx
                by_cases hax : ax = a
                · have hax := hax.symm
                  subst hax
                  obtain ⟨hh1, hh2⟩ := hitS.out sx hxS.out
                  have hh1S : Shut ((txs (recs (B.take (j + 1)) who) a).length = at7 + 1) := hh1
                  rw [← show ts3.map (·.2) = txs (recs B who) a from he3.out, List.getElem?_map] at hh2
                  obtain ⟨⟨m, sm⟩, hm3, hsm⟩ := Option.map_eq_some_iff.1 hh2
                  simp only at hsm
                  subst hsm
                  have hat : at7 < n3 := by have := (List.getElem?_eq_some_iff.1 hm3).1; rw [hn3.out] at this; exact this
                  have hat' : ¬ (n3 : Int) ≤ (at7 : Int) := by omega
                  have hat2 : (at7 : Int) < (n3 : Int) := by omega
                  obtain ⟨aa3, cc3, ee3, _, hms⟩ := M7.msl
                  obtain ⟨g3, eg3, cm, bm, _⟩ := hms at7 _ hm3
                  obtain rfl : a3 = some ⟨g3, 0, none⟩ := by
                    cases ee3
                    exact eg3
                  simp only at cm bm
                  obtain ⟨ma, mc, hme⟩ := bm.slice
                  subst hme
                  have D3 : ∀ W, Turn no wr W → W.cell? ⟨g3, at7, none⟩ = some (.slice ma sm.length mc) := fun W t => t.keep cm (fun q => q)
                  have X3 : ∀ W, Turn no wr W → (convert 31 9 (.slice ma sm.length mc)).run Tryd.prog W = .ok (.string ⟨sm.toArray⟩) W := fun W t => bytes_text (bm.turn_no t)
                  have D6 : ∀ W, Turn no wr W → W.cell? ⟨sw, 6, none⟩ = some (.slice (some ⟨gb, 0, none⟩) nB cb) := fun W t => t.keep c6 (fun q => q)
                  have D7 : ∀ W, Turn no wr W → W.cell? ⟨gb, j * 19 + 2, none⟩ = some (.string ⟨sm.toArray⟩) := fun W t => t.keep q2 (fun q => q)
                  clear hms hh1 hh2 hm3 cm bm ee3 eg3
                  go_wp2_with fail
                  refine wp_region_held_drew (S := fun W => Turn no wr W) (by kernel_rfl) (Turn.refl no wr).drew (fun hHeld => ?_)
                  refine' wpAnyH_take (i := 0) (v := .int .i64 at7) rfl (by kernel_rfl) (by kernel_rfl) (by kernel_rfl) (fun _ _ _ h => h) (Or.inl ⟨by kernel_rfl, fun W hW => ?y1⟩) hHeld ?r1
                  · go_simp
                  refine' wpAnyH_take (i := 1) (v := .slice (some ⟨g3, 0, none⟩) n3 p3) rfl (by kernel_rfl) (by kernel_rfl) (by kernel_rfl) (fun _ _ _ h => h) (Or.inl ⟨by kernel_rfl, fun W hW => ?y2⟩) hHeld ?r2
                  · go_simp
                  refine' wpAnyH_take (i := 2) (v := .int .i64 n3) rfl (by kernel_rfl) (by kernel_rfl) (by kernel_rfl) (fun _ _ _ h => h) (Or.inl ⟨by kernel_rfl, fun W hW => ?y3⟩) hHeld ?r3
                  · go_simp
                  refine' wpAnyH_take (i := 3) (v := .bool false) rfl (by kernel_rfl) (by kernel_rfl) (by kernel_rfl) (fun _ _ _ h => h) (Or.inl ⟨by kernel_rfl, fun W hW => ?y4⟩) hHeld ?r4
                  · go_simp
                  refine' wpAnyH_take (i := 4) (v := .bool false) rfl (by kernel_rfl) (by kernel_rfl) (by kernel_rfl) (fun _ _ _ h => h) (Or.inl ⟨by kernel_rfl, fun W hW => ?y5⟩) hHeld ?r5
                  · go_simp
                  refine' wpAnyH_take (i := 5) (v := .slice (some ⟨g3, 0, none⟩) n3 p3) rfl (by kernel_rfl) (by kernel_rfl) (by kernel_rfl) (fun _ _ _ h => h) (Or.inl ⟨by kernel_rfl, fun W hW => ?y6⟩) hHeld ?r6
                  · go_simp
                  refine' wpAnyH_take (i := 6) (v := .int .i64 at7) rfl (by kernel_rfl) (by kernel_rfl) (by kernel_rfl) (fun _ _ _ h => h) (Or.inl ⟨by kernel_rfl, fun W hW => ?y7⟩) hHeld ?r7
                  · go_simp
                  refine' wpAnyH_take (i := 7) (v := .pointer (some ⟨g3, at7, none⟩)) rfl (by kernel_rfl) (by kernel_rfl) (by kernel_rfl) (fun _ _ _ h => h) (Or.inl ⟨by kernel_rfl, fun W hW => ?y8⟩) hHeld ?r8
                  · go_simp
                  refine' wpAnyH_take (i := 8) (v := .slice ma sm.length mc) rfl (by kernel_rfl) (by kernel_rfl) (by kernel_rfl) (fun _ _ _ h => h) (Or.inl ⟨by kernel_rfl, fun W hW => ?y9⟩) hHeld ?r9
                  · have c := D3 W hW
                    go_simp
                  refine' wpAnyH_take (i := 9) (v := .string ⟨sm.toArray⟩) rfl (by kernel_rfl) (by kernel_rfl) (by kernel_rfl) (fun _ _ _ h => h) (Or.inl ⟨by kernel_rfl, fun W hW => ?y10⟩) hHeld ?r10
                  · have c := X3 W hW
                    go_simp
                  refine' wpAnyH_take (i := 10) (v := .pointer (some ⟨sw, 0, none⟩)) rfl (by kernel_rfl) (by kernel_rfl) (by kernel_rfl) (fun _ _ _ h => h) (Or.inl ⟨by kernel_rfl, fun W hW => ?y11⟩) hHeld ?r11
                  · go_simp
                  refine' wpAnyH_take (i := 11) (v := .pointer (some ⟨sw, 0, none⟩)) rfl (by kernel_rfl) (by kernel_rfl) (by kernel_rfl) (fun _ _ _ h => h) (Or.inl ⟨by kernel_rfl, fun W hW => ?y12⟩) hHeld ?r12
                  · go_simp
                  refine' wpAnyH_take (i := 12) (v := .pointer (some ⟨sw, 6, none⟩)) rfl (by kernel_rfl) (by kernel_rfl) (by kernel_rfl) (fun _ _ _ h => h) (Or.inl ⟨by kernel_rfl, fun W hW => ?y13⟩) hHeld ?r13
                  · go_simp
                  refine' wpAnyH_take (i := 13) (v := .slice (some ⟨gb, 0, none⟩) nB cb) rfl (by kernel_rfl) (by kernel_rfl) (by kernel_rfl) (fun _ _ _ h => h) (Or.inl ⟨by kernel_rfl, fun W hW => ?y14⟩) hHeld ?r14
                  · have c := D6 W hW
                    go_simp
                  refine' wpAnyH_take (i := 14) (v := .int .i64 j) rfl (by kernel_rfl) (by kernel_rfl) (by kernel_rfl) (fun _ _ _ h => h) (Or.inl ⟨by kernel_rfl, fun W hW => ?y15⟩) hHeld ?r15
                  · go_simp
                  refine' wpAnyH_take (i := 15) (v := .pointer (some ⟨gb, j * 19, none⟩)) rfl (by kernel_rfl) (by kernel_rfl) (by kernel_rfl) (fun _ _ _ h => h) (Or.inl ⟨by kernel_rfl, fun W hW => ?y16⟩) hHeld ?r16
                  · go_simp
                  refine' wpAnyH_take (i := 16) (v := .pointer (some ⟨gb, j * 19 + 2, none⟩)) rfl (by kernel_rfl) (by kernel_rfl) (by kernel_rfl) (fun _ _ _ h => h) (Or.inl ⟨by kernel_rfl, fun W hW => ?y17⟩) hHeld ?r17
                  · go_simp
                  refine' wpAnyH_take (i := 17) (v := .string ⟨sm.toArray⟩) rfl (by kernel_rfl) (by kernel_rfl) (by kernel_rfl) (fun _ _ _ h => h) (Or.inl ⟨by kernel_rfl, fun W hW => ?y18⟩) hHeld ?r18
                  · have c := D7 W hW
                    go_simp
                  refine' wpAnyH_take (i := 18) (v := .bool false) rfl (by kernel_rfl) (by kernel_rfl) (by kernel_rfl) (fun _ _ _ h => h) (Or.inl ⟨by kernel_rfl, fun W hW => ?y19⟩) hHeld ?r19
                  · go_simp
                  refine wpAnyH_ready (rs := [19]) (by kernel_rfl) (by simp) ?_
                  refine AllReadyH.cons rfl (fun K hK => ?_) AllReadyH.nil
                  go_simp
                  refine hK.out _ _ hHeld (fun hHeld => ?_)
                  clear hK
                  refine wpAnyH_done (by kernel_rfl) ?_ _
                  have TW8 := TW7.no (Turn.refl no wr).drew
                  have M8 := M7.turn_no (Turn.refl no wr).drew
                  clear D3 X3 D6 D7 hHeld TW7 M7 c6 q0 q1 q2
                  generalize wr.drew = w8 at *
                  go_wp2_with fail
                  go_roundw
                  case rel => exact ⟨j + 1, by omega, by go_num, by rw [hh1S.out]; go_num, TW8, M8⟩
                  case measure => simp [intOf]; omega
                · have h1' : ((ax.toNat : Int) == (a.toNat : Int)) = false := by
                    simp
                    exact fun e => hax (UInt64.toNat_inj.1 (by omega))
                  have h1'' : ¬ (ax.toNat : Int) = (a.toNat : Int) := by simpa using h1'
                  have hms := missS.out (fun q => hax q.2)
                  have hmsS : Shut ((txs (recs (B.take (j + 1)) who) a).length = at7) := hms
                  clear hms
                  go_wp2_with fail
                  go_roundw
                  case rel => exact ⟨j + 1, by omega, by go_num, by rw [hmsS.out], TW7, M7⟩
                  case measure => simp [intOf]; omega
              · have h0' : ((kx : Int) == (who : Int)) = false := by
                  simp
                  omega
                have h0'' : ¬ (kx : Int) = (who : Int) := by omega
                have hms := missS.out (fun q => hkx q.1)
                have hmsS : Shut ((txs (recs (B.take (j + 1)) who) a).length = at7) := hms
                clear hms
                go_wp2_with fail
                go_roundw
                case rel => exact ⟨j + 1, by omega, by go_num, by rw [hmsS.out], TW7, M7⟩
                case measure => simp [intOf]; omega
            · have hjn : j = nB := by omega
              subst hjn
              have hltj' : ¬ (j : Int) < (j : Int) := by omega
              have htb : B.take j = B := by rw [← hnB.out]; exact List.take_length
              have hlen3 : (txs (recs B who) a).length = n3 := by
                rw [← show ts3.map (·.2) = txs (recs B who) a from he3.out, List.length_map]
                exact hn3
              have hfa3 : f a = n3 := by rw [hf.out]; exact hlen3
              rw [htb, hlen3]
              have hfaS : Shut (f a = n3) := hfa3
              rw [hfa3] at hsi1
              clear hlen3 hfa3 htb hfa
              go_wp2_with fail
              go_roundw
              case rel => exact ⟨i + 1, by omega, by go_num, by rw [hstS.out, hfaS.out]; go_num, TW7⟩
              case measure => simp [intOf]; omega
        · have hin : i = nE := by omega
          subst hin
          have hlti' : ¬ (i : Int) < (i : Int) := by omega
          have hta : (d who).E.take i = (d who).E := by rw [← hnE.out]; exact List.take_length
          have hco := (TW.s2.side who hlt).bk.count
          rw [hta, show ((d who).E.map f).sum = nR from hsumS.out]
          rw [show (recs B who).length = nR from hnR.out] at hco
          clear hsi
          go_wp2_with fail
          refine hco.mono ?_
          rintro e w3 ⟨rfl, B3, t3⟩
          have TW3 := TW.two hlt t3 B3
          clear TW t3 B3 hco c0 c4
          go_wp2_with fail
          go_roundw
          case rel => exact ⟨who + 1, by omega, by go_num, TW3⟩
          case measure => simp [intOf]; omega
    · have hlt' : ¬ (who : Int) < 2 := by omega
      go_wp2_with fail
      go_ret
      exact ⟨rfl, TW.t⟩
end Go.Proofs.YtnlcngcilojnkaaDoor
