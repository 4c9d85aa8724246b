/- survived. -/
import Derived.Test.YtcdogciacchigaaV0
namespace Go.Proofs.Ytcdogciacchigaa
open Go.RowKit Go.Maps
set_option linter.unusedVariables false

theorem Im.at {B : Nat} {w : World} {v : Value} {l : List Fi} (h : Im B w v l) (i : Nat) (f : Fi) (hf : l[i]? = some f) : ∃ g c a c', v = .slice (some ⟨g, 0, none⟩) l.length c ∧ w.cell? ⟨g, i * 2, none⟩ = some (strV f.1) ∧ w.cell? ⟨g, i * 2 + 1, none⟩ = some (.slice a f.2.length c') ∧ Bs w (.slice a f.2.length c') f.2 := by
  obtain ⟨vs, h1, h2, h3, h4⟩ := h
  have hil := (List.getElem?_eq_some_iff.1 hf).1
  obtain ⟨u, hu⟩ : ∃ u, vs[i]? = some u := ⟨vs[i]'(by omega), List.getElem?_eq_getElem _⟩
  obtain ⟨hO, _⟩ := h4 i f u hf hu
  obtain ⟨a, c', rfl⟩ := hO.bs.slice
  obtain ⟨e0, e1⟩ := imC_at l vs h1 i f _ hf hu
  rcases h2.2 with ⟨_, q⟩ | ⟨g, cap, cur, rfl, _⟩
  · omega
  · have hc : ∀ j x, (imC l vs)[j]? = some x → w.cell? ⟨g, j, none⟩ = some x := fun j x hx => by
      have := World.ownsRow.cells h2 (g := g) rfl j x hx
      simpa [Addr.add_lit] using this
    exact ⟨g, cap, a, c', rfl, hc _ _ e0, hc _ _ e1, hO.bs⟩
theorem Im.slice {B : Nat} {w : World} {v : Value} {l : List Fi} (h : Im B w v l) : ∃ a c, v = .slice a l.length c := by
  obtain ⟨vs, _, h2, _⟩ := h
  rcases h2.2 with ⟨e, q⟩ | ⟨g, cap, cur, e, _⟩
  · exact ⟨none, 0, by rw [e, q]⟩
  · exact ⟨_, _, e⟩
theorem Tl.atB {B : Nat} {w : World} {v : Value} {l : List Pf} (h : Tl B w v l) (i : Nat) (f : Pf) (hf : l[i]? = some f) : ∃ g c a c', v = .slice (some ⟨g, 0, none⟩) l.length c ∧ w.cell? ⟨g, i * 3, none⟩ = some (strV f.nm) ∧ w.cell? ⟨g, i * 3 + 1, none⟩ = some (.slice a f.bs.length c') ∧ w.cell? ⟨g, i * 3 + 2, none⟩ = some (.int .i64 f.sy) ∧ Bs w (.slice a f.bs.length c') f.bs := by
  obtain ⟨g, c, a, n, c', e, h1, h2, h3, hO⟩ := h.at i f hf
  obtain ⟨a', c'', e'⟩ := hO.bs.slice
  simp at e'
  obtain ⟨rfl, rfl, rfl⟩ := e'
  exact ⟨g, c, a, c', e, h1, h2, h3, hO.bs⟩

set_option maxRecDepth 100000 in
set_option maxHeartbeats 16000000 in
theorem survived28 (w : World) (B B' : Nat) (v iw vk : Value) (l : List Pf) (keep : List Int) (junk : UInt8) (hT : Tl B w v l) (hI : Im B' w iw (crashL l keep junk)) (hkeep : Vs w vk (keep.map iv)) (hok : ∀ f ∈ l, f.sy ≤ f.bs.length ∧ f.bs.length ≤ 1073741824) (hll : l.length ≤ 65536) :
    Calls Try.prog 28 #[v, .agg #[iw], vk, .int .u8 junk.toNat] w fun e w' => e = .returned (.bool true) ∧ Turn no w w' := by
  obtain ⟨ta, tc, rfl⟩ := hT.slice
  obtain ⟨ia, ic, rfl⟩ := hI.slice
  rw [crashL_len] at *
  obtain ⟨ka, kc, hks⟩ := hkeep.slice
  have hkl := hkeep.le
  simp only [List.length_map] at hks hkl
  subst hks
  have hkl' : keep.length ≤ 9223372036854775807 := by simp only [maxLen] at hkl; omega
  have T1 : Turn no w (w.alloc (.cells #[.slice ia l.length ic] 36)) := (Turn.refl no w).alloc _
  have RI := Row.new w #[.slice ia l.length ic] 36
  have HT := shut hT
  have HI := shut hI
  have HKP := shut hkeep
  have HOK := shut hok
  clear hT hI hkeep hok
  obtain ⟨g0, hg0⟩ : ∃ g0, g0 = w.heap.size := ⟨_, rfl⟩
  rw [← hg0] at RI
  go_enter Try.func28, Try.ntmps28
  go_wp2_with fail
  try rw [← hg0]
  have HG0 := shut hg0
  clear hg0
  generalize hw1 : w.alloc (.cells #[.slice ia l.length ic] 36) = w1 at *
  go_loopw [9] (fun x wr => ∃ i : Nat, i ≤ l.length ∧ x = .int .i64 i ∧ Turn no w1 wr) (fun x _ => l.length - (intOf x).toNat)
  case atStart => exact ⟨0, Nat.zero_le _, rfl, Turn.refl _ _⟩
  case round =>
    obtain ⟨i, hi, rfl, T⟩ := hrel
    by_cases hlt : i < l.length
    · have hlt' : (i : Int) < (l.length : Int) := by omega
      obtain ⟨f, hf⟩ : ∃ f, l[i]? = some f := ⟨l[i], List.getElem?_eq_getElem hlt⟩
      obtain ⟨hsy, hln⟩ := HOK.out f (List.mem_of_getElem? hf)
      obtain ⟨KV, hKV⟩ : ∃ KV, KV = keep.getD i 0 := ⟨_, rfl⟩
      have hci := crashL_at l keep junk i f hf
      rw [← hKV] at hci
      have TW := T1.then_no T
      have hb0 := (RI.turn T (fun q => q)).cell 0 _ rfl
      obtain ⟨g1, d1, b1, x1, e1, p1, p2, p3, p4⟩ := (HT.out.turn_no TW).atB i f hf
      obtain ⟨g2, d2, b2, x2, e2, q1, q2, q3⟩ := (HI.out.turn_no TW).at i _ hci
      have e1' : ta = some ⟨g1, 0, none⟩ := by simp at e1; exact e1.1
      have e2' : ia = some ⟨g2, 0, none⟩ := by simp at e2; exact e2.1
      subst e1' e2'
      obtain ⟨kn, hkn⟩ : ∃ kn, kn = keepN f.bs.length f.sy KV := ⟨_, rfl⟩
      have hL1 := left_len f.bs f.sy KV junk hsy
      have hL2 := left_pre f.bs f.sy KV junk hsy
      have hL3 := fun N hN hk => left_last f.bs f.sy KV junk hsy N hN hk
      rw [← hkn] at hL1 hL3
      have hknle : f.sy + kn ≤ f.bs.length := by rw [hkn]; unfold keepN; omega
      have hkn2 : (kn : Int) = min (max KV 0) ((f.bs.length : Int) - (f.sy : Int)) := by rw [hkn]; unfold keepN; omega
      simp only at q1 q2 q3
      generalize leftB f.bs f.sy KV junk = LB at *
      rw [hL1] at q2 q3
      have hcap1 := p4.cap.2
      have hcap2 := q3.cap.2
      rw [hL1] at hcap2
      have p5 := p4.take f.sy hsy
      obtain ⟨N, hN⟩ : ∃ N, N = f.sy + kn := ⟨_, rfl⟩
      have HKV := shut hKV
      have HKN := shut hkn
      have HNN := shut hN
      have HL1 := shut hL1
      have HL2 := shut hL2
      have HL3 := shut hL3
      have HK2 := shut hkn2
      have HP4 := shut p4
      have HP5 := shut p5
      have HQ3 := shut q3
      rw [← hN] at q2
      have i1 : ¬ (N : Int) < (f.sy : Int) := by omega
      have i2 : ¬ (f.bs.length : Int) < (N : Int) := by omega
      have hNl : N ≤ f.bs.length := by omega
      have hNs : f.sy ≤ N := by omega
      have hNc : N ≤ x2 := by omega
      clear hKV hkn hL1 hL2 hL3 hkn2 p4 p5 q3 e1 e2 hci hN hcap2
      have TA : Turn no wr (wr.alloc (.cells #[strV f.nm, .slice b2 N x2] 41)) := (Turn.refl no wr).alloc _
      obtain ⟨gf, hgf⟩ : ∃ gf, gf = wr.heap.size := ⟨_, rfl⟩
      have RF : Row (wr.alloc (.cells #[strV f.nm, .slice b2 N x2] 41)) gf #[strV f.nm, .slice b2 N x2] 41 := Row.newAt _ _ _ _ hgf
      have f0 := RF.cell 0 _ rfl
      have f1 := RF.cell 1 _ rfl
      have P1 := TA.keep p1 (fun q => q)
      have P2 := TA.keep p2 (fun q => q)
      have P3 := TA.keep p3 (fun q => q)
      have HGF := shut hgf
      have i3 : (0 : Int) ≤ (f.sy : Int) := by omega
      have i4 : (f.sy : Int) ≤ (x1 : Int) := by omega
      have i5 : f.sy ≤ x1 := by omega
      have HTA := shut TA
      have HB8 : Shut (∀ x, Calls Try.prog 22 #[.slice b1 f.sy x1, .slice b2 N x2] ((wr.alloc (.cells #[.string ⟨f.nm.toArray⟩, .slice b2 N x2] 41)).drewN x) fun e w' => e = .returned (.bool true) ∧ ∃ m, w' = (wr.alloc (.cells #[.string ⟨f.nm.toArray⟩, .slice b2 N x2] 41)).drewN m) := fun x => begins_q _ x _ _ _ _ true (HP5.out.turn_no HTA.out) (by have := HQ3.out.turn_no HTA.out; rw [← HNN.out] at this; exact this) HL2.out
      clear hgf TA
      unfold strV at *
      go_wp2_with fail
      try rw [← HGF.out]
      generalize hwa : wr.alloc (.cells #[.string ⟨f.nm.toArray⟩, .slice b2 N x2] 41) = wa at *
      go_quiet ((first | (go_at_call 22; exact HB8.out _)))
      have HTD := shut (HTA.out.drewN nq)
      have RD := shut (RF.drewN nq)
      have D0 := RD.out.cell 0 _ rfl
      have D1 := RD.out.cell 1 _ rfl
      have E1 := HTD.out.keep p1 (fun q => q)
      have E2 := HTD.out.keep p2 (fun q => q)
      have E3 := HTD.out.keep p3 (fun q => q)
      have HP1 := shut p1
      have HP2 := shut p2
      have HP3 := shut p3
      clear P1 P2 P3 f0 f1 HB8 hwa RF p1 p2 p3 q1 q2 hb0
      generalize wa.drewN nq = wd at *
      obtain ⟨KM, hKM⟩ : ∃ KM : Int, KM = max KV 0 := ⟨_, rfl⟩
      have hmx : (if KV < 0 then (0 : Int) else KV) = KM := by rw [hKM]; split <;> omega
      obtain ⟨DD, hDD⟩ : ∃ DD : Int, DD = (f.bs.length : Int) - (f.sy : Int) := ⟨_, rfl⟩
      have hw1 : IntKind.i64.wrap ((N : Int) - (f.sy : Int)) = (kn : Int) := by have := HNN.out; rw [wrap_i64 (by omega) (by omega)]; omega
      have hw2 : IntKind.i64.wrap ((f.bs.length : Int) - (f.sy : Int)) = DD := by rw [wrap_i64 (by omega) (by omega)]; omega
      have hw3 : (N : Int) - (f.sy : Int) = (kn : Int) := by have := HNN.out; omega
      have hw4 : (f.bs.length : Int) - (f.sy : Int) = DD := hDD.symm
      have hmn1 : (if KM ≤ DD then KM else DD) = (kn : Int) := by have := HK2.out; rw [← hDD, ← hKM] at this; rw [this]; split <;> omega
      have hmn2 : (if DD < KM then DD else KM) = (kn : Int) := by have := HK2.out; rw [← hDD, ← hKM] at this; rw [this]; split <;> omega
      have HKM := shut hKM
      have HDD := shut hDD
      have hkv : i < keep.length → ∃ kb ko, ka = some ⟨kb, ko, none⟩ ∧ wd.cell? ⟨kb, ko + i, none⟩ = some (.int .i64 KV) := fun hik => by
        obtain ⟨kb, ko, kcap, e, _, hcell⟩ := HKP.out.at (by simp; omega)
        have e3 : ka = some ⟨kb, ko, none⟩ := by simp at e; exact e.1
        have := hcell i (iv KV) (by simp [HKV.out, List.getD_eq_getElem?_getD, hik])
        exact ⟨kb, ko, e3, (TW.then_no HTD.out).keep this (fun q => q)⟩
      clear hKM hDD
      by_cases hik : i < keep.length
      · have hik' : (i : Int) < (keep.length : Int) := by omega
        obtain ⟨kb, ko, rfl, ck⟩ := hkv hik
        clear hkv
        go_wp2_with fail
        go_quiet (fail)
        have HTE := shut (HTD.out.drewN nq)
        have RE := shut (RD.out.drewN nq)
        have F0 := RE.out.cell 0 _ rfl
        have F1 := RE.out.cell 1 _ rfl
        have E1 := HTE.out.keep HP1.out (fun q => q)
        have E2 := HTE.out.keep HP2.out (fun q => q)
        have E3 := HTE.out.keep HP3.out (fun q => q)
        clear HTD RD D0 D1 ck
        generalize wd.drewN nq = we at *

        by_cases hk0 : kn = 0
        · have hNe : N = f.sy := by have := HNN.out; omega
          subst hk0
          have hng : ¬ (f.sy : Int) < (N : Int) := by omega
          go_wp2_with fail
          go_quiet (fail)
          have HTF := shut (HTE.out.drewN nq)
          clear HTE RE F0 F1 E1 E2 E3
          generalize we.drewN nq = wf at *
          go_wp2_with fail
          go_roundw
          case rel => exact ⟨i + 1, by omega, by go_num, T.then_no HTF.out⟩
          case measure => simp [intOf]; omega

        · obtain ⟨M, hM⟩ : ∃ M, N = M + 1 := ⟨N - 1, by have := HNN.out; omega⟩
          obtain ⟨hl1, hl2, hl3⟩ := HL3.out M (by have := HNN.out; omega) hk0
          obtain ⟨y1, o1, cp1, e1, _, hc1⟩ := HQ3.out.at (by rw [HL1.out]; omega)
          obtain ⟨y2, o2, cp2, e2, _, hc2⟩ := HP4.out.at (by omega)
          have e1' : b2 = some ⟨y1, o1, none⟩ := by simp at e1; exact e1.1
          have e2' : b1 = some ⟨y2, o2, none⟩ := by simp at e2; exact e2.1
          subst e1' e2'
          have c1 := HTE.out.keep (hc1 M (by rw [HL1.out, ← HNN.out]; omega)) (fun q => q)
          have c2 := HTE.out.keep (hc2 M (by omega)) (fun q => q)
          rw [List.getD_eq_getElem?_getD, hl2, Option.getD_some] at c1
          have hx := xorB_eq (f.bs.getD M 0) junk
          generalize f.bs.getD M 0 = y at *
          have hwm : IntKind.i64.wrap ((N : Int) - 1) = (M : Int) := by rw [wrap_i64 (by omega) (by omega)]; omega
          have hwm' : (N : Int) - 1 = (M : Int) := by omega
          have hng : (f.sy : Int) < (N : Int) := by have := HNN.out; omega
          have j1 : (M : Int) < (N : Int) := by omega
          have j2 : (M : Int) < (f.bs.length : Int) := by omega
          have j3 : M < N := by omega
          have j4 : M < f.bs.length := by omega
          have j5 : (M : Int) ≤ (x2 : Int) := by omega
          have j6 : M ≤ x2 := by omega
          have j7 : (0 : Int) ≤ (M : Int) := by omega
          have HB15 : Shut (∀ x, Calls Try.prog 22 #[.slice (some ⟨y1, o1, none⟩) M x2, .slice (some ⟨y2, o2, none⟩) f.bs.length x1] (we.drewN x) fun e w' => e = .returned (.bool true) ∧ ∃ m, w' = we.drewN m) := fun x => by
            have h3 := HQ3.out.turn_no HTE.out
            have h4 := HP4.out.turn_no HTE.out
            have hLBl := HL1.out
            rw [← hLBl] at h3
            exact begins_q _ x _ _ _ _ true (h3.take M (by have := HNN.out; omega)) h4 hl1
          have HJ := shut hM
          clear hl1 hl2 hl3 hc1 hc2 e1 e2 hM
          go_wp2_with fail
          go_quiet ((first | (go_at_call 22; exact HB15.out _)))
          have HTF := shut (HTE.out.drewN nq)
          clear HTE RE F0 F1 E1 E2 E3 HB15
          generalize we.drewN nq = wf at *
          go_wp2_with fail
          go_roundw
          case rel => exact ⟨i + 1, by omega, by go_num, T.then_no HTF.out⟩
          case measure => simp [intOf]; omega
      · have hik' : ¬ (i : Int) < (keep.length : Int) := by omega
        clear hkv
        have hKV0 : KV = 0 := by rw [HKV.out, List.getD_eq_getElem?_getD, List.getElem?_eq_none (by omega)]; rfl
        have hKM0 : KM = 0 := by rw [HKM.out, hKV0]; rfl
        have hk0 : kn = 0 := by have := HK2.out; rw [hKV0] at this; omega
        have hNe : N = f.sy := by have := HNN.out; omega
        clear hmx
        subst hKV0 hKM0 hk0

        go_wp2_with fail
        go_quiet (fail)
        have HTE := shut (HTD.out.drewN nq)
        have RE := shut (RD.out.drewN nq)
        have F0 := RE.out.cell 0 _ rfl
        have F1 := RE.out.cell 1 _ rfl
        have E1 := HTE.out.keep HP1.out (fun q => q)
        have E2 := HTE.out.keep HP2.out (fun q => q)
        have E3 := HTE.out.keep HP3.out (fun q => q)
        clear HTD RD D0 D1 
        generalize wd.drewN nq = we at *

        have hng : ¬ (f.sy : Int) < (N : Int) := by omega
        go_wp2_with fail
        go_quiet (fail)
        have HTF := shut (HTE.out.drewN nq)
        clear HTE RE F0 F1 E1 E2 E3
        generalize we.drewN nq = wf at *
        go_wp2_with fail
        go_roundw
        case rel => exact ⟨i + 1, by omega, by go_num, T.then_no HTF.out⟩
        case measure => simp [intOf]; omega
    · have hlt' : ¬ (i : Int) < (l.length : Int) := by omega
      go_wp2_with fail
      go_ret
      exact ⟨rfl, T1.then_no T⟩
end Go.Proofs.Ytcdogciacchigaa
