/- Median. -/
import Derived.Test.YtbhimedajfkioaaP0
namespace Go.Proofs.Ytbhimedajfkioaa
open Go.RowKit
set_option linter.unusedVariables false

theorem KsAt.turn_ge {S : Nat → Prop} {w w' : World} {a : Option Addr} {cap : Nat} {l : List Mk} (h : KsAt w a cap l) (t : Turn S w w') (hS : ∀ k, S k → w.heap.size ≤ k) : KsAt w' a cap l := by
  refine ⟨h.le, h.cap, h.ok, fun j m hj => ?_⟩
  obtain ⟨b, off, e, c⟩ := h.cells j m hj
  refine ⟨b, off, e, fun i v hi => ?_⟩
  have hb : ¬ S b := fun z => by
    have h1 := hS _ z
    have h2 : b < w.heap.size := World.block_lt_of_cell? w _ (c i v hi)
    omega
  exact t.keep (c i v hi) hb
theorem Ms.turn_ge {S : Nat → Prop} {w w' : World} {v : Value} {l : List Mb} (h : Ms w v l) (t : Turn S w w') (hS : ∀ k, S k → w.heap.size ≤ k) : Ms w' v l := by
  obtain ⟨a, cap, e, h⟩ := h
  refine ⟨a, cap, e, h.le, h.cap, h.ok, fun j m hj => ?_⟩
  obtain ⟨b, off, e, c0, c1, c2⟩ := h.cells j m hj
  have hb : ¬ S b := fun z => by
    have h1 := hS _ z
    have h2 : b < w.heap.size := World.block_lt_of_cell? w _ c0
    omega
  exact ⟨b, off, e, t.keep c0 hb, t.keep c1 hb, t.keep c2 hb⟩
set_option maxRecDepth 100000 in
set_option maxHeartbeats 40000000 in
theorem median7 (w : World) (vc : Value) (M : List Mb) (hc : Ms w vc M) (h : Nat) (r : Int) (id : List UInt8) (hid : id.length = 32) (v : Value) (l : List Mk) (hv : Ks w v l) :
    Calls Try.prog 7 #[.agg #[vc], .agg (ctL h r id v).toArray] w fun e w' => ∃ t : Nat, e = .returned (.tuple #[.int .u64 t, .int .i64 (medE M h r id l)]) ∧ (medE M h r id l = 0 → IsMed M l t) ∧ (medE M h r id l ≠ 0 → t = 0) ∧ Turn no w w' := by
  have HOK := shut hv.oks
  obtain ⟨ca, cc, rfl, hM⟩ := hc
  obtain ⟨a, cap, rfl, hk0⟩ := hv
  obtain ⟨w1, hw1⟩ : ∃ w1, w.alloc (.cells #[.slice ca M.length cc] 24) = w1 := ⟨_, rfl⟩
  have s1 : w1.heap.size = w.heap.size + 1 := by rw [← hw1]; simp
  have T1 : Turn no w w1 := by rw [← hw1]; exact (Turn.refl no w).alloc _
  have cb : w1.cell? ⟨w.heap.size, 0, none⟩ = some (.slice ca M.length cc) := by rw [← hw1]; exact cell_new1 w _ 24
  obtain ⟨w2, hw2⟩ : ∃ w2, w1.alloc (.cells (ctL h r id (.slice a l.length cap)).toArray 30) = w2 := ⟨_, rfl⟩
  have T2 : Turn no w1 w2 := by rw [← hw2]; exact (Turn.refl no w1).alloc _
  have hR : Row w2 (w.heap.size + 1) (ctL h r id (.slice a l.length cap)).toArray 30 := by rw [← s1, ← hw2]; exact Row.new w1 _ 30
  have HK : Shut (∀ W, Turn no w2 W → W.cell? ⟨w.heap.size, 0, none⟩ = some (.slice ca M.length cc) ∧ Row W (w.heap.size + 1) (ctL h r id (.slice a l.length cap)).toArray 30 ∧ W.cell? ⟨w.heap.size + 1, 34, none⟩ = some (.slice a l.length cap) ∧ Turn no w W ∧ KsAt W a cap l ∧ Ms W (.slice ca M.length cc) M) := fun W t =>
    ⟨(T2.then_no t).keep cb (fun q => q), hR.turn t (fun q => q), t.keep (hR.cell 34 _ (ctL_34 h r id hid _)) (fun q => q), (T1.then_no T2).then_no t, hk0.turn_no ((T1.then_no T2).then_no t), ⟨_, _, rfl, hM.turn_no ((T1.then_no T2).then_no t)⟩⟩
  have hi30 := size30 h r id hid (.slice a l.length cap)
  have HS : Shut (w.heap.size + 2 ≤ w2.heap.size) := by show _ ≤ _; rw [← hw2]; simp; omega
  have HSND : Shut (∀ W, Turn no w2 W → Calls Try.prog 16 #[.agg #[.slice ca M.length cc]] W fun e w' => e = .returned (.int .i64 (soundE M)) ∧ Turn no W w') := fun W t => sound16 W _ M (HK.out W t).2.2.2.2.2
  have HPLN : Shut (∀ W, Turn no w2 W → Calls Try.prog 17 #[.agg (ctL h r id (.slice a l.length cap)).toArray] W fun e w' => e = .returned (.int .i64 (plainE h r id l)) ∧ Turn no W w') := fun W t => plain17 W h r id hid _ l ⟨_, _, rfl, (HK.out W t).2.2.2.2.1⟩
  have HSEA : Shut (∀ W, Turn no w2 W → Calls Try.prog 18 #[.agg #[.slice ca M.length cc], .slice a l.length cap] W fun e w' => e = .returned (.bool (seatedB M.length l)) ∧ Turn no W w') := fun W t => seated18 W ca M.length cc _ l ⟨_, _, rfl, (HK.out W t).2.2.2.2.1⟩
  have hle : l.length ≤ 9223372036854775807 := by have := hk0.le; have := hk0.cap; simp only [maxLen] at this; omega
  have HE : Shut (medE M h r id l = if soundE M ≠ 0 then soundE M else if plainE h r id l ≠ 0 then plainE h r id l else if l.length = 0 then 127 else if seatedB M.length l = false then 101 else 0) := rfl
  have HMS : Shut (plainE h r id l = 0 → l.length ≠ 0 → seatedB M.length l = true → Sits M l ∧ psum M l ≤ tot M ∧ l.length ≤ 64) := fun x y z => med_sits x y z
  have HPP : Shut (soundE M = 0 → Sits M l → l.length ≠ 0 → 0 < psum M l) := fun x y z => pw_pos x y z
  have HTT : Shut (soundE M = 0 → (tot M : Int) ≤ 1152921504606846975) := fun x => tot_lt M x
  have HREF := Turn.refl no w2
  clear T1 T2 cb hk0 hM hid
  generalize medE M h r id l = E at *
  generalize (ctL h r id (.slice a l.length cap)).toArray = CT at *
  generalize plainE h r id l = PE at *
  generalize soundE M = SE at *
  generalize seatedB M.length l = SB at *
  obtain ⟨n, hn⟩ : ∃ n, Hid (l.length = n) := ⟨_, rfl⟩
  have hn' : l.length = n := hn.out
  rw [hn'] at hle HK HSEA HE HMS HPP
  obtain ⟨cn, hcn⟩ : ∃ cn, Hid (M.length = cn) := ⟨_, rfl⟩
  have hcn' : M.length = cn := hcn.out
  rw [hcn'] at HK HSND HSEA hw1
  rw [hcn']
  clear hn' hcn'
  have hsn := HSND.out w2 HREF
  obtain ⟨k24, kR, k34, _⟩ := HK.out w2 HREF
  go_enter Try.func7, Try.ntmps7
  go_wp2_with fail
  try rw [hw1]
  try rw [s1]
  try rw [hw2]
  clear hw1 hw2 s1
  refine hsn.mono ?_
  rintro e w3 ⟨rfl, t3⟩
  clear hsn k24 kR k34 hR
  by_cases hSE : SE = 0
  · subst hSE
    have HE2 : Shut (E = if PE ≠ 0 then PE else if n = 0 then 127 else if SB = false then 101 else 0) := by show _ = _; rw [HE.out]; simp
    clear HE
    have hpl := HPLN.out w3 t3
    obtain ⟨_, kR, _⟩ := HK.out w3 t3
    have HT3 := shut t3
    clear t3
    go_wp2_with (refine wpList_load_row rfl 30 (.tmp 3) rfl (w.heap.size + 1) rfl 30 CT _ _ kR Try.underlying30 rfl hi30 ?_)
    refine hpl.mono ?_
    rintro e w4 ⟨rfl, t4⟩
    have HT4 := shut (HT3.out.then_no t4)
    clear hpl t4 kR HT3
    by_cases hPE : PE = 0
    · subst hPE
      have HE3 : Shut (E = if n = 0 then 127 else if SB = false then 101 else 0) := by show _ = _; rw [HE2.out]; simp
      clear HE2
      obtain ⟨k24, _, k34, kT, _⟩ := HK.out w4 HT4.out
      have HKT := shut kT
      clear kT
      by_cases h0 : n = 0
      · have HE4 : Shut (E = 127) := by show _ = _; rw [HE3.out, if_pos h0]
        have h0' : ((n : Int) == 0) = true := by simp; omega
        clear h0
        go_wp2_with fail
        go_ret2
        exact ⟨0, by rw [HE4.out]; rfl, (fun q => absurd (HE4.out.symm.trans q) (by decide)), (fun _ => rfl), HKT.out⟩
      have h0' : ((n : Int) == 0) = false := by simp; omega
      have HN0 := shut h0
      have hsea := HSEA.out w4 HT4.out
      clear h0
      go_wp2_with fail
      refine hsea.mono ?_
      rintro e w5 ⟨rfl, t5⟩
      have HT5 := shut (HT4.out.then_no t5)
      clear hsea t5 k24 k34 HT4
      obtain ⟨k24, _, k34, kT, kA, kM⟩ := HK.out w5 HT5.out
      cases SB with
      | false =>
        have HE4 : Shut (E = 101) := by show _ = _; rw [HE3.out, if_neg HN0.out]; rfl
        have HKT5 := shut kT
        clear kT
        go_wp2_with fail
        go_ret2
        exact ⟨0, by rw [HE4.out]; rfl, (fun q => absurd (HE4.out.symm.trans q) (by decide)), (fun _ => rfl), HKT5.out⟩
      | true =>
        have HE4 : Shut (E = 0) := by show _ = _; rw [HE3.out, if_neg HN0.out]; rfl
        obtain ⟨hsit, hps, h64⟩ := HMS.out (by trivial) HN0.out (by trivial)
        have hpos := HPP.out (by trivial) hsit HN0.out
        have htt := HTT.out (by trivial)
        have hcp := copied19 w5 _ l ⟨_, _, rfl, kA⟩ (by rw [hn.out]; omega)
        rw [hn.out] at hcp
        have HSIT := shut hsit
        clear hsit kT kA kM HE3 HMS HPP HTT
        go_wp2_with fail
        refine hcp.mono ?_
        rintro e w6 ⟨v6, rfl, O6, f6, t6⟩
        have HT6 := shut (HT5.out.then_no t6)
        have HF6 : Shut (∀ g, v6.ownBlock = some g → w2.heap.size ≤ g) := fun g hg => Nat.le_trans HT5.out.size (f6 g hg)
        have hne : l ≠ [] := fun q => by rw [q] at hn; exact HN0.out hn.out.symm
        have hso := sort20 w6 v6 l hne (by rw [hn.out]; exact O6) HOK.out (by rw [hn.out]; omega)
        obtain ⟨a6, cap6, e6, _⟩ := OwnN.form O6
        subst e6
        clear hcp t6 O6 f6 hne
        go_wp2_with fail
        refine hso.mono ?_
        rintro e w7 ⟨rfl, s, hp, hby, K7, t7⟩
        obtain ⟨xa, xc, ex, K7⟩ := K7
        have hsl : s.length = n := by rw [hp.length_eq]; exact hn.out
        rw [hsl] at ex
        cases ex
        have TW : Turn (fun k => (Value.slice a6 n cap6).ownBlock = some k) w2 w7 := HT6.out.of_no.trans t7 (fun _ _ q => q)
        have kM7 : Ms w7 (.slice ca cn cc) M := by
          have := (HK.out w6 HT6.out).2.2.2.2.2
          exact (HK.out w2 (Turn.refl _ _)).2.2.2.2.2.turn_ge TW (fun k hk => HF6.out k hk)
        have hlt2 : w.heap.size < w2.heap.size := by have := HS.out; omega
        have k24 : w7.cell? ⟨w.heap.size, 0, none⟩ = some (.slice ca cn cc) := TW.keep (HK.out w2 (Turn.refl _ _)).1 (fun z => by have := HF6.out _ z; have h2 : w2.heap.size ≤ w.heap.size := this; omega)
        have TF : Turn no w w7 := (HK.out w2 (Turn.refl _ _)).2.2.2.1.trans TW (fun i hi z => by have := HF6.out _ z; omega)
        have hps7 : psum M s = psum M l := psum_perm M hp
        have hsit7 : Sits M s := fun m hm => HSIT.out m (hp.mem_iff.1 hm)
        have hpw := power23 w7 _ M kM7 _ s ⟨_, _, by rw [hsl], K7⟩ hsit7 (by omega)
        have HK7 := shut K7
        have HM7 := shut kM7
        have HTF := shut TF
        have H24 := shut k24
        have HBY := shut hby
        have HP := shut hp
        have HPS7 := shut hps7
        have HSI7 := shut hsit7
        have HSL := shut hsl
        rw [hps7] at hpw
        clear hso t7 TW kM7 TF K7 hby hp hps7 hsit7 hsl HT6 HT5 HF6
        go_wp2_with fail
        refine hpw.mono ?_
        rintro e w8 ⟨rfl, t8⟩
        have HK8 : Shut (∀ W, Turn no w8 W → W.cell? ⟨w.heap.size, 0, none⟩ = some (.slice ca cn cc) ∧ KsAt W a6 cap6 s ∧ Ms W (.slice ca cn cc) M ∧ Turn no w W) := fun W t => ⟨(t8.then_no t).keep H24.out (fun q => q), HK7.out.turn_no (t8.then_no t), HM7.out.turn_no (t8.then_no t), (HTF.out.then_no t8).then_no t⟩
        clear hpw t8 k24 HK7 HM7 HTF H24
        generalize hA : psum M l = A at *
        have HA := shut hA
        clear hA
        have hA60 : (A : Int) ≤ 1152921504606846975 := by omega
        go_wp2_with fail
        go_loopw [10, 11, 12] (fun xt xs xc wr => ∃ k t sf : Nat, k ≤ n ∧ xc = .int .i64 k ∧ xt = .int .u64 t ∧ xs = .int .u64 sf ∧ sf ≤ A ∧ Shut (psum M (s.take k) = sf ∧ (k = 0 ∨ (∃ m, s[k - 1]? = some m ∧ m.tm = t ∧ 2 * psum M (s.take (k - 1)) ≤ A ∧ 0 < k)) ∧ Turn no w8 wr)) (fun _ _ xc _ => n - (intOf xc).toNat)
        case atStart => exact ⟨0, 0, 0, by omega, rfl, rfl, rfl, by omega, by simp [psum], Or.inl rfl, Turn.refl _ _⟩
        case round =>
          obtain ⟨k, t, sf, hk, rfl, rfl, rfl, hsf, HI⟩ := hrel
          have hmul : IntKind.u64.wrap (2 * (sf : Int)) = 2 * (sf : Int) := by rw [IntKind.wrap_u64]; omega
          obtain ⟨k24, kA, kM, kT⟩ := HK8.out wr HI.out.2.2
          by_cases hc : 2 * sf ≤ A
          · have hc' : 2 * (sf : Int) ≤ (A : Int) := by omega
            have hkn : k < n := by
              rcases Nat.lt_or_ge k n with q | q
              · exact q
              · have h1 := HI.out.1
                rw [List.take_of_length_le (by rw [HSL.out]; exact q), HPS7.out] at h1
                omega
            obtain ⟨m, hm⟩ : ∃ m, s[k]? = some m := ⟨s[k]'(by rw [HSL.out]; exact hkn), List.getElem?_eq_getElem _⟩
            obtain ⟨b, off, rfl, c⟩ := kA.cells k m hm
            obtain ⟨x, hx, hxp, hxi⟩ := HSI7.out.at (List.mem_of_getElem? hm)
            have hxl : m.ix.toNat < cn := by rw [← hcn.out]; exact (List.getElem?_eq_some_iff.1 hx).1
            obtain ⟨ya, yc, ey, kM⟩ := kM
            rw [hcn.out] at ey
            cases ey
            obtain ⟨b2, off2, rfl, d0, d1, d2⟩ := kM.cells _ x hx
            have HPT := shut (psum_take_succ M s k m hm)
            have HPL := shut (psum_take_le M s (k + 1))
            have c0 : wr.cell? ⟨b, off + k * 18, none⟩ = some (.int .i64 m.ix) := c 0 _ rfl
            have c1 : wr.cell? ⟨b, off + k * 18 + 1, none⟩ = some (.int .u64 m.tm) := c 1 _ rfl
            rw [← hxi] at c0
            have hlt' : (k : Int) < (n : Int) := by omega
            have hk1 : Hid (k + 1 ≤ n) := hkn
            have hsum : sf + x.pw ≤ A := by
              have h1 := HPT.out
              have h2 := HPL.out
              have h3 := HI.out.1
              have h4 := HPS7.out
              omega
            have HXP := shut hxp
            have HM := shut hm
            have HC := shut hc
            generalize m.ix.toNat = xi at *
            have hlx : (xi : Int) < (cn : Int) := by omega
            have HD : Shut (∀ W, Turn no wr W → W.cell? ⟨w.heap.size, 0, none⟩ = some (.slice (some ⟨b2, off2, none⟩) cn cc) ∧ W.cell? ⟨b, off + k * 18, none⟩ = some (.int .i64 xi) ∧ W.cell? ⟨b2, off2 + xi * 3 + 1, none⟩ = some (.int .u64 x.pw)) := fun W t => ⟨t.keep k24 (fun q => q), t.keep c0 (fun q => q), t.keep d1 (fun q => q)⟩
            have hadd : IntKind.u64.wrap ((sf : Int) + (x.pw : Int)) = ((sf + x.pw : Nat) : Int) := by rw [IntKind.wrap_u64]; omega
            clear c kA kM kT hm hx hxp hxi d0 d2 hc k24 c0 d1
            go_upto_region 19 with fail
            refine wp_region_held_drew (S := fun W => Turn no wr W) (by kernel_rfl) (Turn.refl no wr).drew (fun hHeld => ?_)
            refine' wpAnyH_take (i := 0) (v := .int .u64 sf) rfl (by kernel_rfl) (by kernel_rfl) (by kernel_rfl) (fun _ _ _ h => h) (Or.inl ⟨by kernel_rfl, fun W hW => ?y1⟩) hHeld ?r1
            · go_simp
            refine' wpAnyH_take (i := 1) (v := .pointer (some ⟨w.heap.size, 0, none⟩)) rfl (by kernel_rfl) (by kernel_rfl) (by kernel_rfl) (fun _ _ _ h => h) (Or.inl ⟨by kernel_rfl, fun W hW => ?y2⟩) hHeld ?r2
            · go_simp
            refine' wpAnyH_take (i := 2) (v := .slice (some ⟨b2, off2, none⟩) cn cc) rfl (by kernel_rfl) (by kernel_rfl) (by kernel_rfl) (fun _ _ _ h => h) (Or.inl ⟨by kernel_rfl, fun W hW => ?y3⟩) hHeld ?r3
            · obtain ⟨g0, g1, g2⟩ := HD.out W hW
              go_simp
            refine' wpAnyH_take (i := 3) (v := .slice (some ⟨b, off, none⟩) n cap6) rfl (by kernel_rfl) (by kernel_rfl) (by kernel_rfl) (fun _ _ _ h => h) (Or.inl ⟨by kernel_rfl, fun W hW => ?y4⟩) hHeld ?r4
            · go_simp
            refine' wpAnyH_take (i := 4) (v := .int .i64 k) rfl (by kernel_rfl) (by kernel_rfl) (by kernel_rfl) (fun _ _ _ h => h) (Or.inl ⟨by kernel_rfl, fun W hW => ?y5⟩) hHeld ?r5
            · go_simp
            refine' wpAnyH_take (i := 5) (v := .pointer (some ⟨b, off + k * 18, none⟩)) rfl (by kernel_rfl) (by kernel_rfl) (by kernel_rfl) (fun _ _ _ h => h) (Or.inl ⟨by kernel_rfl, fun W hW => ?y6⟩) hHeld ?r6
            · go_simp
            refine' wpAnyH_take (i := 6) (v := .pointer (some ⟨b, off + k * 18, none⟩)) rfl (by kernel_rfl) (by kernel_rfl) (by kernel_rfl) (fun _ _ _ h => h) (Or.inl ⟨by kernel_rfl, fun W hW => ?y7⟩) hHeld ?r7
            · go_simp
            refine' wpAnyH_take (i := 7) (v := .int .i64 xi) rfl (by kernel_rfl) (by kernel_rfl) (by kernel_rfl) (fun _ _ _ h => h) (Or.inl ⟨by kernel_rfl, fun W hW => ?y8⟩) hHeld ?r8
            · obtain ⟨g0, g1, g2⟩ := HD.out W hW
              go_simp
            refine' wpAnyH_take (i := 8) (v := .pointer (some ⟨b2, off2 + xi * 3, none⟩)) rfl (by kernel_rfl) (by kernel_rfl) (by kernel_rfl) (fun _ _ _ h => h) (Or.inl ⟨by kernel_rfl, fun W hW => ?y9⟩) hHeld ?r9
            · go_simp
            refine' wpAnyH_take (i := 9) (v := .pointer (some ⟨b2, off2 + xi * 3 + 1, none⟩)) rfl (by kernel_rfl) (by kernel_rfl) (by kernel_rfl) (fun _ _ _ h => h) (Or.inl ⟨by kernel_rfl, fun W hW => ?y10⟩) hHeld ?r10
            · go_simp
            refine' wpAnyH_take (i := 10) (v := .int .u64 x.pw) rfl (by kernel_rfl) (by kernel_rfl) (by kernel_rfl) (fun _ _ _ h => h) (Or.inl ⟨by kernel_rfl, fun W hW => ?y11⟩) hHeld ?r11
            · obtain ⟨g0, g1, g2⟩ := HD.out W hW
              go_simp
            refine' wpAnyH_take (i := 11) (v := .int .u64 ((sf + x.pw : Nat) : Int)) rfl (by kernel_rfl) (by kernel_rfl) (by kernel_rfl) (fun _ _ _ h => h) (Or.inl ⟨by kernel_rfl, fun W hW => ?y12⟩) hHeld ?r12
            · go_simp
            refine' wpAnyH_take (i := 12) (v := .int .u64 ((sf + x.pw : Nat) : Int)) rfl (by kernel_rfl) (by kernel_rfl) (by kernel_rfl) (fun _ _ _ h => h) (Or.inl ⟨by kernel_rfl, fun W hW => ?y13⟩) hHeld ?r13
            · go_simp
            refine wpAnyH_done (by kernel_rfl) ?_ _
            go_simp
            have HN : Shut (psum M (s.take (k + 1)) = sf + x.pw ∧ (k + 1 = 0 ∨ (∃ m', s[k + 1 - 1]? = some m' ∧ m'.tm = m.tm ∧ 2 * psum M (s.take (k + 1 - 1)) ≤ A ∧ 0 < k + 1)) ∧ Turn no w8 wr.drew) := by
              refine ⟨by rw [HPT.out, HI.out.1, HXP.out], Or.inr ⟨m, HM.out, rfl, ?_, by omega⟩, HI.out.2.2.then_no hHeld⟩
              rw [show k + 1 - 1 = k by omega, HI.out.1]
              exact HC.out
            clear hHeld
            go_wp2_with fail
            go_roundw
            case rel => exact ⟨k + 1, m.tm, sf + x.pw, hk1.out, by go_num, rfl, by go_num, hsum, HN⟩
            case measure => have := hk1.out; simp [intOf]; omega
          · have hc' : ¬ 2 * (sf : Int) ≤ (A : Int) := by omega
            have HKT := shut kT
            have HMD : Shut (IsMed M l t) := by
              rcases HI.out.2.1 with q | ⟨m, hm, rfl, h2, hk2⟩
              · subst q
                have h1 := HI.out.1
                simp [psum] at h1
                omega
              · have h1 := HI.out.1
                exact med_of_sorted HP.out HBY.out hm (by rw [HA.out]; exact h2) (by rw [HA.out, show k - 1 + 1 = k by omega, h1]; omega)
            clear kA kM kT k24 HI
            go_wp2_with fail
            go_ret2
            exact ⟨t, by rw [HE4.out]; rfl, (fun _ => HMD.out), (fun q => absurd HE4.out q), HKT.out⟩
    · have HE3 : Shut (E = PE) := by show _ = _; rw [HE2.out, if_pos hPE]
      have hPE' : (PE != 0) = true := by simpa using hPE
      have HKT := shut (HK.out w4 HT4.out).2.2.2.1
      have HPE := shut hPE
      clear hPE HE2
      go_wp2_with fail
      go_ret2
      exact ⟨0, by rw [HE3.out]; rfl, (fun q => absurd (HE3.out.symm.trans q) HPE.out), (fun _ => rfl), HKT.out⟩
  · have HE3 : Shut (E = SE) := by show _ = _; rw [HE.out, if_pos hSE]
    have hSE' : (SE != 0) = true := by simpa using hSE
    have HKT := shut (HK.out w3 t3).2.2.2.1
    have HSE := shut hSE
    clear hSE HE t3
    go_wp2_with fail
    go_ret2
    exact ⟨0, by rw [HE3.out]; rfl, (fun q => absurd (HE3.out.symm.trans q) HSE.out), (fun _ => rfl), HKT.out⟩
end Go.Proofs.Ytbhimedajfkioaa
