/- Z1, Z2 in one. -/
import Derived.Test.YtcdogciacchigabHh
import Derived.Test.YtcdogciacchigabYy
import Derived.Test.YtcdogciacchigabS0
-- DiskMakes: the walk.
namespace Go.Proofs.Ytcdogciacchigab
open Go.RowKit Go.Maps
set_option linter.unusedVariables false

theorem made32_any {B : Nat} (w : World) (m : Mx) (a : Option Addr) (cap : Nat) (hF : Fs B w a cap m.l) (hBw : B ≤ w.heap.size) (hl : m.l.length ≤ 3518437208780) (hb : ∀ f ∈ m.l, f.bs.length ≤ 140737488351232) : Calls Try.prog 32 #[.agg (mxC m a cap)] w (Md w) := by
  cases hmt : m.mt with
  | false => exact made32_new w m a cap hmt
  | true =>
    cases hok : mOk m.lim m.l with
    | false => exact made32_bad w m a cap hmt hok hF hBw hl hb
    | true => exact made32_ok w m a cap hmt hok hF hBw hl hb
theorem ox_nil {B : Nat} {w : World} (k : Int) (nm : Nm) (hn : nm.length ≤ maxLen) : Ox B w ⟨k, 0, nm, .slice none 0 0, [], 0, ⟨0, 0, false⟩, .slice none 0 0, [], 0⟩ :=
  ⟨hn, Or.inl ⟨rfl, rfl⟩, Or.inl ⟨rfl, rfl⟩, fun h => absurd rfl h, fun h => absurd rfl h⟩
set_option maxRecDepth 100000 in
set_option maxHeartbeats 16000000 in
theorem makes5 (w : World) (m : Mx) (a : Option Addr) (cap : Nat) (hF : Fs w.heap.size w a cap m.l) (hl : m.l.length ≤ 3518437208780) (hb : ∀ f ∈ m.l, f.bs.length ≤ 140737488351232) :
    Calls Try.prog 5 #[.agg (mxC m a cap)] w fun e w' => e = .returned (.bool true) ∧ Turn no w w' := by
  obtain ⟨lim, mt, l⟩ := m
  simp only at hF hl hb
  obtain ⟨w1, hw1⟩ : ∃ w1, w.alloc (.cells #[.int .i64 lim, .bool mt, .slice a l.length cap] 26) = w1 := ⟨_, rfl⟩
  have T1 : Turn no w w1 := by rw [← hw1]; exact (Turn.refl no w).alloc _
  have s1 : w1.heap.size = w.heap.size + 1 := by rw [← hw1]; simp
  have r1 : Row w1 w.heap.size #[.int .i64 lim, .bool mt, .slice a l.length cap] 26 := by rw [← hw1]; exact Row.new w _ 26
  have hmd := made32_any w1 ⟨lim, mt, l⟩ a cap (hF.turn_no T1) T1.size hl hb
  have x0 := r1.cell 0 _ rfl
  have x1 := r1.cell 1 _ rfl
  have x2 := r1.cell 2 _ rfl
  have HF := shut hF
  have HR1 := shut r1
  have HT1 := shut T1
  have HS1 := shut s1
  have hl' : l.length ≤ 9223372036854775807 := by omega
  clear hF hb r1 T1 s1 hl
  unfold mxC at *
  simp only at *
  go_enter Try.func5, Try.ntmps5
  go_wp2_with fail
  try rw [hw1]
  refine hmd.mono ?_
  clear hmd
  rintro e w2 ⟨t2, hh⟩
  have HT2 := shut t2
  have HR2 := shut (HR1.out.turn t2 (fun e => e))
  clear t2 x0 x1 x2
  rcases hh with ⟨p, q, s, rfl, hP, hn, hm, hoff⟩ | rfl
  · obtain ⟨w3, hw3⟩ : ∃ w3, w2.alloc (.cells #[.pointer (some ⟨p, 0, none⟩), .pointer (some ⟨q, 0, none⟩)] 55) = w3 := ⟨_, rfl⟩
    have T3 : Turn no w2 w3 := by rw [← hw3]; exact (Turn.refl no w2).alloc _
    obtain ⟨g3, hg3⟩ : ∃ g3, w2.heap.size = g3 := ⟨_, rfl⟩
    have r3 : Row w3 g3 #[.pointer (some ⟨p, 0, none⟩), .pointer (some ⟨q, 0, none⟩)] 55 := by rw [← hw3]; exact Row.newAt _ _ _ _ hg3.symm
    have y0 := r3.cell 0 _ rfl
    have y1 := r3.cell 1 _ rfl
    obtain ⟨Y, hY⟩ : ∃ Y : Nat → Prop, Y = (fun k => k = g3) := ⟨_, rfl⟩
    have hPY : Pr w1.heap.size Y w2 p q s s := hP.avoid (fun k e => by rw [hY] at e; exact Or.inr (by omega))
    have HP3 := shut (hPY.turn_no T3)
    have HYY := shut hY
    clear hPY hY
    have HR3 := shut r3
    have HT3 := shut T3
    have HR23 := shut (HR2.out.turn T3 (fun e => e))
    obtain ⟨K, L, hD, hR, _⟩ := hP.turn_no T3
    have hon := fun W (t : Turn no w3 W) => on13 (hD.turn_no t)
    have hca := fun W (t : Turn no w3 W) => calls14 (hD.turn_no t)
    rw [hoff] at hon
    rw [hn] at hca
    have hnA := fun W (t : Turn no w3 W) => names29 (hD.turn_no t)
    have hnB := fun W (t : Turn no w3 W) => rnames35 (hR.turn_no t)
    have hlen : (if s.off then [] else s.fs.map Pf.nm).length ≤ 65536 := by
      obtain ⟨_, _, _, hd⟩ := hD
      have := hd.inv.count
      split <;> simp <;> omega
    generalize (if s.off then [] else s.fs.map Pf.nm) = NM at *
    have HON := shut hon
    have HCA := shut hca
    have HNA := shut hnA
    have HNB := shut hnB
    have HLEN := shut hlen
    have hcell : ∀ W, Turn no w3 W → W.cell? ⟨g3, 0, none⟩ = some (.pointer (some ⟨p, 0, none⟩)) ∧ W.cell? ⟨g3, 1, none⟩ = some (.pointer (some ⟨q, 0, none⟩)) := fun W t => ⟨t.keep y0 (fun e => e), t.keep y1 (fun e => e)⟩
    have HC := shut hcell
    have HG3 := shut hg3
    clear hP hD hR hon hca hnA hnB hlen T3 r3 hcell hn hm hoff
    unfold ptr
    go_wp2_with fail
    refine wp_region_noPanic ?_
    refine wp_region_held_drew (S := fun W => Turn no w3 W) (by kernel_rfl) (Turn.refl _ w3).drew (fun hHeld => ?_)
    refine' wpAnyH_take (i := 0) (v := .pointer (some ⟨g3, 0, none⟩)) rfl (by kernel_rfl) (by kernel_rfl) (by kernel_rfl) (fun _ _ _ h => h) (Or.inl ⟨by kernel_rfl, fun W hW => ?y1⟩) hHeld ?r1
    · go_simp
    refine' wpAnyH_take (i := 1) (v := .pointer (some ⟨p, 0, none⟩)) rfl (by kernel_rfl) (by kernel_rfl) (by kernel_rfl) (fun _ _ _ h => h) (Or.inl ⟨by kernel_rfl, fun W hW => ?y2⟩) hHeld ?r2
    · have z := (HC.out W hW).1
      go_simp
    refine wpAnyH_ready (rs := [2]) (by kernel_rfl) (by simp) ?_
    refine AllReadyH.cons rfl (fun K hK => ?_) AllReadyH.nil
    go_simp
    refine (HON.out _ hHeld).mono ?_
    rintro e w4 ⟨rfl, rfl⟩
    go_wp2_with fail
    refine hK.out _ _ hHeld (fun hHeld => ?_)
    clear hK
    refine' wpAnyH_take (i := 3) (v := .bool false) rfl (by kernel_rfl) (by kernel_rfl) (by kernel_rfl) (fun _ _ _ h => h) (Or.inl ⟨by kernel_rfl, fun W hW => ?y3⟩) hHeld ?r3
    · go_simp
    refine' wpAnyH_take (i := 4) (v := .bool false) rfl (by kernel_rfl) (by kernel_rfl) (by kernel_rfl) (fun _ _ _ h => h) (Or.inl ⟨by kernel_rfl, fun W hW => ?y4⟩) hHeld ?r4
    · go_simp
    refine' wpAnyH_take (i := 5) (v := .pointer (some ⟨g3, 0, none⟩)) rfl (by kernel_rfl) (by kernel_rfl) (by kernel_rfl) (fun _ _ _ h => h) (Or.inl ⟨by kernel_rfl, fun W hW => ?y5⟩) hHeld ?r5
    · go_simp
    refine' wpAnyH_take (i := 6) (v := .pointer (some ⟨p, 0, none⟩)) rfl (by kernel_rfl) (by kernel_rfl) (by kernel_rfl) (fun _ _ _ h => h) (Or.inl ⟨by kernel_rfl, fun W hW => ?y6⟩) hHeld ?r6
    · have z := (HC.out W hW).1
      go_simp
    refine wpAnyH_ready (rs := [7]) (by kernel_rfl) (by simp) ?_
    refine AllReadyH.cons rfl (fun K hK => ?_) AllReadyH.nil
    go_simp
    refine (HCA.out _ hHeld).mono ?_
    rintro e w4 ⟨rfl, rfl⟩
    go_wp2_with fail
    refine hK.out _ _ hHeld (fun hHeld => ?_)
    clear hK
    refine' wpAnyH_take (i := 8) (v := .bool false) rfl (by kernel_rfl) (by kernel_rfl) (by kernel_rfl) (fun _ _ _ h => h) (Or.inl ⟨by kernel_rfl, fun W hW => ?y7⟩) hHeld ?r7
    · go_simp
    refine' wpAnyH_take (i := 9) (v := .bool false) rfl (by kernel_rfl) (by kernel_rfl) (by kernel_rfl) (fun _ _ _ h => h) (Or.inl ⟨by kernel_rfl, fun W hW => ?y8⟩) hHeld ?r8
    · go_simp
    refine' wpAnyH_take (i := 10) (v := .bool false) rfl (by kernel_rfl) (by kernel_rfl) (by kernel_rfl) (fun _ _ _ h => h) (Or.inl ⟨by kernel_rfl, fun W hW => ?y9⟩) hHeld ?r9
    · go_simp
    refine' wpAnyH_take (i := 11) (v := .pointer (some ⟨g3, 0, none⟩)) rfl (by kernel_rfl) (by kernel_rfl) (by kernel_rfl) (fun _ _ _ h => h) (Or.inl ⟨by kernel_rfl, fun W hW => ?y10⟩) hHeld ?r10
    · go_simp
    refine' wpAnyH_take (i := 12) (v := .pointer (some ⟨p, 0, none⟩)) rfl (by kernel_rfl) (by kernel_rfl) (by kernel_rfl) (fun _ _ _ h => h) (Or.inl ⟨by kernel_rfl, fun W hW => ?y11⟩) hHeld ?r11
    · have z := (HC.out W hW).1
      go_simp
    refine' wpAnyH_take (i := 14) (v := .pointer (some ⟨g3, 1, none⟩)) rfl (by kernel_rfl) (by kernel_rfl) (by kernel_rfl) (fun _ _ _ h => h) (Or.inl ⟨by kernel_rfl, fun W hW => ?y12⟩) hHeld ?r12
    · go_simp
    refine' wpAnyH_take (i := 15) (v := .pointer (some ⟨q, 0, none⟩)) rfl (by kernel_rfl) (by kernel_rfl) (by kernel_rfl) (fun _ _ _ h => h) (Or.inl ⟨by kernel_rfl, fun W hW => ?y13⟩) hHeld ?r13
    · have z := (HC.out W hW).2
      go_simp
    refine wpAnyH_ready (rs := [13]) (by kernel_rfl) (by simp) ?_
    refine AllReadyH.cons rfl (fun K hK => ?_) AllReadyH.nil
    go_simp
    refine (HNA.out _ hHeld).mono ?_
    rintro e w5 ⟨v5, rfl, hO5, _, t5⟩
    obtain ⟨a5, n5, c5, rfl⟩ : ∃ a n c, v5 = .slice a n c := by
      rcases hO5.shape with ⟨e, _⟩ | ⟨_, _, _, e, _⟩
      · exact ⟨_, _, _, e⟩
      · exact ⟨_, _, _, e⟩
    have S5 : Turn no w3 w5 := (Turn.refl no w3).drew.then_no t5
    have HO5 := shut hO5
    clear hO5 t5
    go_wp2_with fail
    refine hK.out _ _ S5 (fun hHeld => ?_)
    clear hK
    refine wpAnyH_ready (rs := [16]) (by kernel_rfl) (by simp) ?_
    refine AllReadyH.cons rfl (fun K hK => ?_) AllReadyH.nil
    go_simp
    refine (HNB.out _ hHeld).mono ?_
    rintro e w6 ⟨v6, rfl, hO6, _, t6⟩
    obtain ⟨a6, n6, c6, rfl⟩ : ∃ a n c, v6 = .slice a n c := by
      rcases hO6.shape with ⟨e, _⟩ | ⟨_, _, _, e, _⟩
      · exact ⟨_, _, _, e⟩
      · exact ⟨_, _, _, e⟩
    have S6 := S5.then_no t6
    have hsm := sameNames33 w6 _ _ NM HLEN.out (HO5.out.turn_no t6) hO6
    clear hO6 t6
    go_wp2_with fail
    refine hK.out _ _ S6 (fun hHeld => ?_)
    clear hK
    refine wpAnyH_ready (rs := [17]) (by kernel_rfl) (by simp) ?_
    refine AllReadyH.cons rfl (fun K hK => ?_) AllReadyH.nil
    go_simp
    refine hsm.mono ?_
    clear hsm
    rintro e w7 ⟨rfl, t7⟩
    have S7 := S6.then_no t7
    go_wp2_with fail
    refine hK.out _ _ S7 (fun hHeld => ?_)
    clear hK
    refine' wpAnyH_take (i := 18) (v := .bool false) rfl (by kernel_rfl) (by kernel_rfl) (by kernel_rfl) (fun _ _ _ h => h) (Or.inl ⟨by kernel_rfl, fun W hW => ?y14⟩) hHeld ?r14
    · go_simp
    refine' wpAnyH_take (i := 19) (v := .bool false) rfl (by kernel_rfl) (by kernel_rfl) (by kernel_rfl) (fun _ _ _ h => h) (Or.inl ⟨by kernel_rfl, fun W hW => ?y15⟩) hHeld ?r15
    · go_simp
    refine wpAnyH_done (by kernel_rfl) ?_ _
    refine NoPanic.normal ?_
    have HS7 := shut S7
    clear S6 S7 S5 t7
    have HPB := shut (HP3.out.turn_no HS7.out)
    obtain ⟨B, hB⟩ : ∃ B, w1.heap.size = B := ⟨_, rfl⟩
    rw [hB] at HPB
    have HB := shut hB
    have HBW : Shut (B = w.heap.size + 1) := by have h := HS1.out; rw [hB] at h; exact h
    have hbx : ∀ W, Turn (out B Y) w7 W → W.cell? ⟨w.heap.size, 2, none⟩ = some (.slice a l.length cap) ∧ W.cell? ⟨g3, 0, none⟩ = some (.pointer (some ⟨p, 0, none⟩)) ∧ W.cell? ⟨g3, 1, none⟩ = some (.pointer (some ⟨q, 0, none⟩)) ∧ Fs w.heap.size W a cap l := fun W t => by
      have hbw := HBW.out
      have ra := (HR23.out.turn HS7.out (fun e => e)).turn t (fun e => by have := e.1; omega)
      have rb := (HR3.out.turn HS7.out (fun e => e)).turn t (fun e => e.2 (by rw [HYY.out]))
      exact ⟨ra.cell 2 _ rfl, rb.cell 0 _ rfl, rb.cell 1 _ rfl, ((((HF.out.turn_no HT1.out).turn_no HT2.out).turn_no HT3.out).turn_no HS7.out).turn t (fun k e => by have := e.1; omega)⟩
    have HBX := shut hbx
    have HB7 : Shut (B ≤ w7.heap.size ∧ g3 < w7.heap.size) := by
      have e1 := HT2.out.size
      have e2 := HS7.out.size
      have e3 := HR3.out
      have e4 := HB.out
      have e5 := HT3.out.size
      have e6 : g3 < w3.heap.size := lt_of_obj e3
      exact ⟨by omega, by omega⟩
    clear hbx hB
    go_wp2_with fail
    go_loopw [5] (fun x wr => ∃ i : Nat, i ≤ l.length ∧ x = .int .i64 i ∧ Shut (Pr B Y wr p q s s) ∧ Shut (Turn (out B Y) w7 wr)) (fun x _ => l.length - (intOf x).toNat)
    case atStart => exact ⟨0, Nat.zero_le _, rfl, HPB, Turn.refl _ _⟩
    case round =>
      obtain ⟨i, hi, rfl, HPR, HT⟩ := hrel
      obtain ⟨bx, by0, by1, hFr⟩ := HBX.out wr HT.out
      by_cases hlt : i < l.length
      · have hlt' : (i : Int) < (l.length : Int) := by omega
        obtain ⟨f, hf⟩ : ∃ f, l[i]? = some f := ⟨l[i], List.getElem?_eq_getElem hlt⟩
        have hfm := List.mem_of_getElem? hf
        have hfn := (hFr.each f hfm).1
        obtain ⟨b, off, ea, hbB, _, _⟩ := hFr.cells i f hf
        subst ea
        have hcl : ∀ W, Turn (out B Y) wr W → W.cell? ⟨w.heap.size, 2, none⟩ = some (.slice (some ⟨b, off, none⟩) l.length cap) ∧ W.cell? ⟨g3, 0, none⟩ = some (.pointer (some ⟨p, 0, none⟩)) ∧ W.cell? ⟨g3, 1, none⟩ = some (.pointer (some ⟨q, 0, none⟩)) ∧ W.cell? ⟨b, off + i * 2, none⟩ = some (.string ⟨f.nm.toArray⟩) := fun W t => by
          obtain ⟨y0, y1, y2, y3⟩ := HBX.out W (HT.out.trans t (fun k _ e => e))
          obtain ⟨b', off', ea', _, d0, _⟩ := y3.cells i f hf
          cases ea'
          exact ⟨y0, y1, y2, d0⟩
        have HCL := shut hcl
        have hst : ∀ W, Pr B Y W p q s s → w7.heap.size ≤ W.heap.size → _ := fun W hPW hs => step6 hPW (by have := HB7.out.1; omega) (fun k e => by rw [HYY.out] at e; have := HB7.out.2; omega) ⟨6, 0, f.nm, .slice none 0 0, [], 0, ⟨0, 0, false⟩, .slice none 0 0, [], 0⟩ (ox_nil 6 f.nm hfn) rfl
        have hst2 : ∀ W, Pr B Y W p q s s → w7.heap.size ≤ W.heap.size → _ := fun W hPW hs => step7 hPW (by have := HB7.out.1; omega) (fun k e => by rw [HYY.out] at e; have := HB7.out.2; omega) ⟨7, 0, f.nm, .slice none 0 0, [], 0, ⟨0, 0, false⟩, .slice none 0 0, [], 0⟩ (ox_nil 7 f.nm hfn) rfl
        have HST : Shut (∀ W, Pr B Y W p q s s → w7.heap.size ≤ W.heap.size → Calls Try.prog 25 #[.agg #[.pointer (some ⟨p, 0, none⟩), .pointer (some ⟨q, 0, none⟩)], .agg #[.int .i64 6, .int .i64 0, .string ⟨f.nm.toArray⟩, .slice none 0 0, .int .i64 0, .int .i64 0, .int .i64 0, .bool false, .slice none 0 0, .int .u8 0]] W fun e w' => e = .returned (.bool true) ∧ Pr B Y w' p q s s ∧ Turn (out B Y) W w') := hst
        have HST2 : Shut (∀ W, Pr B Y W p q s s → w7.heap.size ≤ W.heap.size → Calls Try.prog 25 #[.agg #[.pointer (some ⟨p, 0, none⟩), .pointer (some ⟨q, 0, none⟩)], .agg #[.int .i64 7, .int .i64 0, .string ⟨f.nm.toArray⟩, .slice none 0 0, .int .i64 0, .int .i64 0, .int .i64 0, .bool false, .slice none 0 0, .int .u8 0]] W fun e w' => e = .returned (.bool true) ∧ Pr B Y w' p q s s ∧ Turn (out B Y) W w') := hst2
        clear hst hst2 hcl hFr hfn hfm hf hbB
        go_wp2_with fail
        refine wp_region_noPanic ?_
        refine wp_region_held_drew (S := fun W => Turn (out B Y) wr W) (by kernel_rfl) (Turn.refl _ wr).drew (fun hHeld => ?_)
        refine' wpAnyH_take (i := 0) (v := .agg #[.pointer (some ⟨p, 0, none⟩), .pointer (some ⟨q, 0, none⟩)]) rfl (by kernel_rfl) (by kernel_rfl) (by kernel_rfl) (fun _ _ _ h => h) (Or.inl ⟨by kernel_rfl, fun W hW => ?y16⟩) hHeld ?r16
        · obtain ⟨_, z1, z2, _⟩ := HCL.out W hW
          go_simp
        refine' wpAnyH_take (i := 1) (v := .pointer (some ⟨w.heap.size, 2, none⟩)) rfl (by kernel_rfl) (by kernel_rfl) (by kernel_rfl) (fun _ _ _ h => h) (Or.inl ⟨by kernel_rfl, fun W hW => ?y17⟩) hHeld ?r17
        · go_simp
        refine' wpAnyH_take (i := 2) (v := .pointer (some ⟨w.heap.size, 2, none⟩)) rfl (by kernel_rfl) (by kernel_rfl) (by kernel_rfl) (fun _ _ _ h => h) (Or.inl ⟨by kernel_rfl, fun W hW => ?y18⟩) hHeld ?r18
        · go_simp
        refine' wpAnyH_take (i := 3) (v := .slice (some ⟨b, off, none⟩) l.length cap) rfl (by kernel_rfl) (by kernel_rfl) (by kernel_rfl) (fun _ _ _ h => h) (Or.inl ⟨by kernel_rfl, fun W hW => ?y19⟩) hHeld ?r19
        · have z := (HCL.out W hW).1
          go_simp
        refine' wpAnyH_take (i := 4) (v := .int .i64 i) rfl (by kernel_rfl) (by kernel_rfl) (by kernel_rfl) (fun _ _ _ h => h) (Or.inl ⟨by kernel_rfl, fun W hW => ?y20⟩) hHeld ?r20
        · go_simp
        refine' wpAnyH_take (i := 5) (v := .pointer (some ⟨b, off + i * 2, none⟩)) rfl (by kernel_rfl) (by kernel_rfl) (by kernel_rfl) (fun _ _ _ h => h) (Or.inl ⟨by kernel_rfl, fun W hW => ?y21⟩) hHeld ?r21
        · go_simp
        refine' wpAnyH_take (i := 6) (v := .pointer (some ⟨b, off + i * 2, none⟩)) rfl (by kernel_rfl) (by kernel_rfl) (by kernel_rfl) (fun _ _ _ h => h) (Or.inl ⟨by kernel_rfl, fun W hW => ?y22⟩) hHeld ?r22
        · go_simp
        refine' wpAnyH_take (i := 7) (v := .string ⟨f.nm.toArray⟩) rfl (by kernel_rfl) (by kernel_rfl) (by kernel_rfl) (fun _ _ _ h => h) (Or.inl ⟨by kernel_rfl, fun W hW => ?y23⟩) hHeld ?r23
        · have z := (HCL.out W hW).2.2.2
          go_simp
        refine' wpAnyH_take (i := 8) (v := .agg #[.int .i64 6, .int .i64 0, .string ⟨f.nm.toArray⟩, .slice none 0 0, .int .i64 0, .int .i64 0, .int .i64 0, .bool false, .slice none 0 0, .int .u8 0]) rfl (by kernel_rfl) (by kernel_rfl) (by kernel_rfl) (fun _ _ _ h => h) (Or.inl ⟨by kernel_rfl, fun W hW => ?y24⟩) hHeld ?r24
        · go_simp
        refine wpAnyH_ready (rs := [9]) (by kernel_rfl) (by simp) ?_
        refine AllReadyH.cons rfl (fun K hK => ?_) AllReadyH.nil
        go_simp
        refine (HST.out _ (HPR.out.turn_no (Turn.refl no wr).drew) (Nat.le_trans HT.out.size (Turn.refl no wr).drew.size)).mono ?_
        rintro e w8 ⟨rfl, hP8, t8⟩
        have S8 : Turn (out B Y) wr w8 := ((Turn.refl no wr).drew.of_no).trans t8 (fun k _ e => e)
        have HP8 := shut hP8
        clear hP8 t8
        go_wp2_with fail
        refine hK.out _ _ S8 (fun hHeld => ?_)
        clear hK
        refine' wpAnyH_take (i := 10) (v := .bool false) rfl (by kernel_rfl) (by kernel_rfl) (by kernel_rfl) (fun _ _ _ h => h) (Or.inl ⟨by kernel_rfl, fun W hW => ?y25⟩) hHeld ?r25
        · go_simp
        refine' wpAnyH_take (i := 11) (v := .bool false) rfl (by kernel_rfl) (by kernel_rfl) (by kernel_rfl) (fun _ _ _ h => h) (Or.inl ⟨by kernel_rfl, fun W hW => ?y26⟩) hHeld ?r26
        · go_simp
        refine' wpAnyH_take (i := 12) (v := .agg #[.pointer (some ⟨p, 0, none⟩), .pointer (some ⟨q, 0, none⟩)]) rfl (by kernel_rfl) (by kernel_rfl) (by kernel_rfl) (fun _ _ _ h => h) (Or.inl ⟨by kernel_rfl, fun W hW => ?y27⟩) hHeld ?r27
        · obtain ⟨_, z1, z2, _⟩ := HCL.out W hW
          go_simp
        refine' wpAnyH_take (i := 13) (v := .pointer (some ⟨w.heap.size, 2, none⟩)) rfl (by kernel_rfl) (by kernel_rfl) (by kernel_rfl) (fun _ _ _ h => h) (Or.inl ⟨by kernel_rfl, fun W hW => ?y28⟩) hHeld ?r28
        · go_simp
        refine' wpAnyH_take (i := 14) (v := .pointer (some ⟨w.heap.size, 2, none⟩)) rfl (by kernel_rfl) (by kernel_rfl) (by kernel_rfl) (fun _ _ _ h => h) (Or.inl ⟨by kernel_rfl, fun W hW => ?y29⟩) hHeld ?r29
        · go_simp
        refine' wpAnyH_take (i := 15) (v := .slice (some ⟨b, off, none⟩) l.length cap) rfl (by kernel_rfl) (by kernel_rfl) (by kernel_rfl) (fun _ _ _ h => h) (Or.inl ⟨by kernel_rfl, fun W hW => ?y30⟩) hHeld ?r30
        · have z := (HCL.out W hW).1
          go_simp
        refine' wpAnyH_take (i := 16) (v := .int .i64 i) rfl (by kernel_rfl) (by kernel_rfl) (by kernel_rfl) (fun _ _ _ h => h) (Or.inl ⟨by kernel_rfl, fun W hW => ?y31⟩) hHeld ?r31
        · go_simp
        refine' wpAnyH_take (i := 17) (v := .pointer (some ⟨b, off + i * 2, none⟩)) rfl (by kernel_rfl) (by kernel_rfl) (by kernel_rfl) (fun _ _ _ h => h) (Or.inl ⟨by kernel_rfl, fun W hW => ?y32⟩) hHeld ?r32
        · go_simp
        refine' wpAnyH_take (i := 18) (v := .pointer (some ⟨b, off + i * 2, none⟩)) rfl (by kernel_rfl) (by kernel_rfl) (by kernel_rfl) (fun _ _ _ h => h) (Or.inl ⟨by kernel_rfl, fun W hW => ?y33⟩) hHeld ?r33
        · go_simp
        refine' wpAnyH_take (i := 19) (v := .string ⟨f.nm.toArray⟩) rfl (by kernel_rfl) (by kernel_rfl) (by kernel_rfl) (fun _ _ _ h => h) (Or.inl ⟨by kernel_rfl, fun W hW => ?y34⟩) hHeld ?r34
        · have z := (HCL.out W hW).2.2.2
          go_simp
        refine' wpAnyH_take (i := 20) (v := .agg #[.int .i64 7, .int .i64 0, .string ⟨f.nm.toArray⟩, .slice none 0 0, .int .i64 0, .int .i64 0, .int .i64 0, .bool false, .slice none 0 0, .int .u8 0]) rfl (by kernel_rfl) (by kernel_rfl) (by kernel_rfl) (fun _ _ _ h => h) (Or.inl ⟨by kernel_rfl, fun W hW => ?y35⟩) hHeld ?r35
        · go_simp
        refine wpAnyH_ready (rs := [21]) (by kernel_rfl) (by simp) ?_
        refine AllReadyH.cons rfl (fun K hK => ?_) AllReadyH.nil
        go_simp
        refine (HST2.out _ HP8.out (Nat.le_trans HT.out.size S8.size)).mono ?_
        rintro e w9 ⟨rfl, hP9, t9⟩
        have S9 := S8.trans t9 (fun k _ e => e)
        have HP9 := shut hP9
        have HT9 : Shut (Turn (out B Y) w7 w9) := HT.out.trans S9 (fun k _ e => e)
        clear hP9 t9
        go_wp2_with fail
        refine hK.out _ _ S9 (fun hHeld => ?_)
        clear hK
        refine' wpAnyH_take (i := 22) (v := .bool false) rfl (by kernel_rfl) (by kernel_rfl) (by kernel_rfl) (fun _ _ _ h => h) (Or.inl ⟨by kernel_rfl, fun W hW => ?y36⟩) hHeld ?r36
        · go_simp
        refine' wpAnyH_take (i := 23) (v := .bool false) rfl (by kernel_rfl) (by kernel_rfl) (by kernel_rfl) (fun _ _ _ h => h) (Or.inl ⟨by kernel_rfl, fun W hW => ?y37⟩) hHeld ?r37
        · go_simp
        refine wpAnyH_done (by kernel_rfl) ?_ _
        refine NoPanic.normal ?_
        go_wp2_with fail
        go_roundw
        case rel => exact ⟨i + 1, by omega, by go_num, HP9, HT9⟩
        case measure => simp [intOf]; omega
      · have hlt' : ¬ (i : Int) < (l.length : Int) := by omega
        have FIN : Shut (Turn no w wr) := (((HT1.out.then_no HT2.out).then_no HT3.out).then_no HS7.out).trans HT.out (fun k hk e => by have := e.1; have := HBW.out; omega)
        clear hFr
        go_wp2_with fail
        go_ret
        exact ⟨rfl, FIN.out⟩
  · have FIN : Shut (Turn no w (w2.alloc (.cells #[.pointer none, .pointer none] 55))) := (HT1.out.then_no HT2.out).alloc _
    go_wp2_with fail
    go_ret
    exact ⟨rfl, FIN.out⟩
end Go.Proofs.Ytcdogciacchigab

-- DiskWrites, DiskReads, DiskTells: play.
namespace Go.Proofs.Ytcdogciacchigab
open Go.RowKit Go.Maps
set_option linter.unusedVariables false

theorem Ox.mono {B B' : Nat} {w : World} {o : Opx} (h : Ox B w o) (hB : B ≤ B') : Ox B' w o := ⟨h.nm, h.data, h.keep, fun a g hg => Nat.lt_of_lt_of_le (h.dold a g hg) hB, fun a g hg => Nat.lt_of_lt_of_le (h.kold a g hg) hB⟩
theorem Sc.mono {B B' : Nat} {w : World} {v : Value} {l : List Opx} (h : Sc B w v l) (hB : B ≤ B') : Sc B' w v l := by
  obtain ⟨a, cap, e, h1, h2, h3, h4⟩ := h
  refine ⟨a, cap, e, h1, h2, fun o ho => (h3 o ho).mono hB, fun j o hj => ?_⟩
  obtain ⟨b, off, ea, hb, hc⟩ := h4 j o hj
  exact ⟨b, off, ea, by omega, hc⟩
set_option maxRecDepth 100000 in
set_option maxHeartbeats 16000000 in
theorem play36 {B0 : Nat} (w : World) (hB0 : B0 ≤ w.heap.size) (m : Mx) (a : Option Addr) (cap : Nat) (hF : Fs B0 w a cap m.l) (hl : m.l.length ≤ 3518437208780) (hb : ∀ f ∈ m.l, f.bs.length ≤ 140737488351232) (sv : Value) (l : List Opx) (hS : Sc B0 w sv l) (hsl : l.length ≤ 1172812402926) (hdl : ∀ o ∈ l, o.data.length ≤ 140737488351232 ∧ o.keep.length ≤ 17592186043904) (lo hi : Int) :
    Calls Try.prog 36 #[.agg (mxC m a cap), sv, .int .i64 lo, .int .i64 hi] w fun e w' => e = .returned (.bool true) ∧ Turn no w w' := by
  obtain ⟨lim, mt, fl⟩ := m
  simp only at hF hl hb
  obtain ⟨sa, sc, rfl, hsl'⟩ := Sc.slice hS
  obtain ⟨w1, hw1⟩ : ∃ w1, w.alloc (.cells #[.int .i64 lim, .bool mt, .slice a fl.length cap] 26) = w1 := ⟨_, rfl⟩
  have T1 : Turn no w w1 := by rw [← hw1]; exact (Turn.refl no w).alloc _
  have s1 : w1.heap.size = w.heap.size + 1 := by rw [← hw1]; simp
  have r1 : Row w1 w.heap.size #[.int .i64 lim, .bool mt, .slice a fl.length cap] 26 := by rw [← hw1]; exact Row.new w _ 26
  have hmd := made32_any w1 ⟨lim, mt, fl⟩ a cap (hF.turn_no T1) (by omega) hl hb
  have x0 := r1.cell 0 _ rfl
  have x1 := r1.cell 1 _ rfl
  have x2 := r1.cell 2 _ rfl
  have HSC := shut (Sc.mono (Sc.turn hS (T1.of_no)) (show B0 ≤ w1.heap.size by omega))
  have HT1 := shut T1
  have HS1 := shut s1
  have HDL := shut hdl
  clear hF hb r1 T1 s1 hl hS hdl hB0
  unfold mxC at *
  simp only at *
  go_enter Try.func36, Try.ntmps36
  go_wp2_with fail
  try rw [hw1]
  refine hmd.mono ?_
  clear hmd
  rintro e w2 ⟨t2, hh⟩
  have HT2 := shut t2
  clear t2 x0 x1 x2
  rcases hh with ⟨p, q, s, rfl, hP, hn, hm, hoff⟩ | rfl
  · obtain ⟨w3, hw3⟩ : ∃ w3, w2.alloc (.cells #[.pointer (some ⟨p, 0, none⟩), .pointer (some ⟨q, 0, none⟩)] 55) = w3 := ⟨_, rfl⟩
    have T3 : Turn no w2 w3 := by rw [← hw3]; exact (Turn.refl no w2).alloc _
    obtain ⟨g3, hg3⟩ : ∃ g3, w2.heap.size = g3 := ⟨_, rfl⟩
    have r3 : Row w3 g3 #[.pointer (some ⟨p, 0, none⟩), .pointer (some ⟨q, 0, none⟩)] 55 := by rw [← hw3]; exact Row.newAt _ _ _ _ hg3.symm
    have y1 := r3.cell 1 _ rfl
    obtain ⟨Y, hY⟩ : ∃ Y : Nat → Prop, Y = (fun k => k = g3) := ⟨_, rfl⟩
    have hPY : Pr w1.heap.size Y w2 p q s s := hP.avoid (fun k e => by rw [hY] at e; exact Or.inr (by omega))
    obtain ⟨B, hB⟩ : ∃ B, w1.heap.size = B := ⟨_, rfl⟩
    rw [hB] at hPY HSC
    have HP3 := shut (hPY.turn_no T3)
    have HYY := shut hY
    have HR3 := shut r3
    have HT3 := shut T3
    have HSC3 := shut (Sc.turn (Sc.turn HSC.out (HT2.out.of_no)) (T3.of_no))
    have HB3 : Shut (B ≤ w3.heap.size ∧ g3 < w3.heap.size ∧ w.heap.size < B) := by
      have e1 := HT2.out.size
      have e2 := T3.size
      have e3 : g3 < w3.heap.size := lt_of_obj r3
      have e4 := HS1.out
      exact ⟨by omega, by omega, by omega⟩
    have HNM : Shut (s.n ≤ 0 ∧ s.m ≤ 0) := ⟨by omega, by omega⟩
    clear hP hPY hY T3 r3 hn hm hoff hB HSC
    unfold ptr
    go_wp2_with fail
    go_loopw [10, 11] (fun x y wr => ∃ (i : Nat) (s : St), i ≤ l.length ∧ x = .bool true ∧ y = .int .i64 i ∧ Shut (Pr B Y wr p q s s) ∧ Shut (s.n ≤ i ∧ s.m ≤ i) ∧ Shut (Turn (out B Y) w3 wr)) (fun _ y _ => l.length - (intOf y).toNat)
    case atStart => exact ⟨0, s, Nat.zero_le _, rfl, rfl, HP3, HNM, Turn.refl _ _⟩
    case round =>
      obtain ⟨i, s', hi, rfl, rfl, HPR, HNM', HT⟩ := hrel
      by_cases hlt : i < l.length
      · have hlt' : (i : Int) < (l.length : Int) := by omega
        obtain ⟨o, ho⟩ : ∃ o, l[i]? = some o := ⟨l[i], List.getElem?_eq_getElem hlt⟩
        obtain ⟨b, off, va, vn, vc, ka, kn, kc, ea, hbB, hO, hA⟩ := Sc.at (Sc.turn HSC3.out (HT.out.mono (fun k _ e => e.1))) i o ho
        subst ea
        obtain ⟨ev, ek, d0, d1, d2, d3, d4, d5, d6, d7, d8, d9⟩ := hA
        have rg := HR3.out.turn HT.out (fun e => e.2 (by rw [HYY.out]))
        obtain ⟨wo, hwo⟩ : ∃ wo, wr.alloc (.cells #[.int .i64 o.kind, .int .i64 o.who, .string ⟨o.nm.toArray⟩, .slice va vn vc, .int .i64 o.n, .int .i64 o.t.when, .int .i64 o.t.kind, .bool o.t.done, .slice ka kn kc, .int .u8 o.junk.toNat] 33) = wo := ⟨_, rfl⟩
        have TO : Turn no wr wo := by rw [← hwo]; exact (Turn.refl no wr).alloc _
        have ro : Row wo wr.heap.size #[.int .i64 o.kind, .int .i64 o.who, .string ⟨o.nm.toArray⟩, .slice va vn vc, .int .i64 o.n, .int .i64 o.t.when, .int .i64 o.t.kind, .bool o.t.done, .slice ka kn kc, .int .u8 o.junk.toNat] 33 := by rw [← hwo]; exact Row.new wr _ 33
        have eo : opC o = #[.int .i64 o.kind, .int .i64 o.who, .string ⟨o.nm.toArray⟩, .slice va vn vc, .int .i64 o.n, .int .i64 o.t.when, .int .i64 o.t.kind, .bool o.t.done, .slice ka kn kc, .int .u8 o.junk.toNat] := by
          unfold opC strV
          rw [ev, ek]
        have ho2 := HDL.out o (List.mem_of_getElem? ho)
        have hst := step_any (HPR.out.turn_no TO) (by have := HB3.out; have := HT.out.size; have := TO.size; omega) (fun k e => by rw [HYY.out] at e; have := HB3.out; have := HT.out.size; have := TO.size; omega) (by have := HNM'.out; omega) (by have := HNM'.out; omega) o (hO.turn_no TO) ho2.1 ho2.2
        rw [eo] at hst
        obtain ⟨bn, bm⟩ := st_bounds s' o
        have HNN : Shut ((stS s' o).n ≤ i + 1 ∧ (stS s' o).m ≤ i + 1) := ⟨by have := HNM'.out; omega, by have := HNM'.out; omega⟩
        generalize hsx : stS s' o = s'' at *
        have ga := rg.turn TO (fun e => e)
        have g0 := ga.cell 0 _ rfl
        have g1 := ga.cell 1 _ rfl
        obtain ⟨go', hgo⟩ : ∃ go', wr.heap.size = go' := ⟨_, rfl⟩
        rw [hgo] at ro
        have o0 := ro.cell 0 _ rfl
        have o1 := ro.cell 1 _ rfl
        have o2 := ro.cell 2 _ rfl
        have o3 := ro.cell 3 _ rfl
        have o4 := ro.cell 4 _ rfl
        have o5 := ro.cell 5 _ rfl
        have o6 := ro.cell 6 _ rfl
        have o7 := ro.cell 7 _ rfl
        have o8 := ro.cell 8 _ rfl
        have o9 := ro.cell 9 _ rfl
        have HTO := shut TO
        have HEV := shut ev
        have HEK := shut ek
        clear hO TO eo ho2 bn bm hsx rg ga ro ho ev ek hbB
        unfold ptr at *
        go_wp2_with fail
        refine hst.mono ?_
        clear hst
        rintro e w' ⟨rfl, hP', t'⟩
        have HP' := shut hP'
        have HT' : Shut (Turn (out B Y) w3 w') := (HT.out.then_no HTO.out).trans t' (fun k _ e => e)
        clear hP' t' o0 o1 o2 o3 o4 o5 o6 o7 o8 o9 g0 g1 d0 d1 d2 d3 d4 d5 d6 d7 d8 d9
        go_wp2_with fail
        go_roundw
        case rel => exact ⟨i + 1, s'', by omega, rfl, by go_num, HP', HNN, HT'⟩
        case measure => simp [intOf]; omega
      · have hlt' : ¬ (i : Int) < (l.length : Int) := by omega
        have FIN : Shut (Turn no w wr) := ((HT1.out.then_no HT2.out).then_no HT3.out).trans HT.out (fun k hk e => by have := e.1; have := HB3.out; omega)
        go_wp2_with fail
        go_ret
        exact ⟨rfl, FIN.out⟩
  · have FIN : Shut (Turn no w (w2.alloc (.cells #[.pointer none, .pointer none] 55))) := (HT1.out.then_no HT2.out).alloc _
    go_wp2_with fail
    go_ret
    exact ⟨rfl, FIN.out⟩
set_option maxRecDepth 100000 in
set_option maxHeartbeats 4000000 in
theorem writes6 {B0 : Nat} (w : World) (hB0 : B0 ≤ w.heap.size) (m : Mx) (a : Option Addr) (cap : Nat) (hF : Fs B0 w a cap m.l) (hl : m.l.length ≤ 3518437208780) (hb : ∀ f ∈ m.l, f.bs.length ≤ 140737488351232) (sv : Value) (l : List Opx) (hS : Sc B0 w sv l) (hsl : l.length ≤ 1172812402926) (hdl : ∀ o ∈ l, o.data.length ≤ 140737488351232 ∧ o.keep.length ≤ 17592186043904) : Calls Try.prog 6 #[.agg (mxC m a cap), sv] w fun e w' => e = .returned (.bool true) ∧ Turn no w w' := by
  obtain ⟨sa, sc, rfl, _⟩ := Sc.slice hS
  have T1 : Turn no w (w.alloc (.cells (mxC m a cap) 26)) := (Turn.refl no w).alloc _
  have r1 : Row (w.alloc (.cells (mxC m a cap) 26)) w.heap.size (mxC m a cap) 26 := Row.new w _ 26
  have hp := play36 _ (Nat.le_trans hB0 T1.size) m a cap (hF.turn_no T1) hl hb _ l (Sc.turn hS T1.of_no) hsl hdl 1 5
  have x0 := r1.cell 0 _ rfl
  have x1 := r1.cell 1 _ rfl
  have x2 := r1.cell 2 _ rfl
  have HT1 := shut T1
  clear hF hl hb hS hsl hdl T1 r1
  unfold mxC at *
  go_enter Try.func6, Try.ntmps6
  go_wp2_with fail
  refine hp.mono ?_
  rintro e w' ⟨rfl, t⟩
  have FIN := shut (HT1.out.then_no t)
  clear t
  go_wp2_with fail
  go_ret
  exact ⟨rfl, FIN.out⟩
set_option maxRecDepth 100000 in
set_option maxHeartbeats 4000000 in
theorem reads7 {B0 : Nat} (w : World) (hB0 : B0 ≤ w.heap.size) (m : Mx) (a : Option Addr) (cap : Nat) (hF : Fs B0 w a cap m.l) (hl : m.l.length ≤ 3518437208780) (hb : ∀ f ∈ m.l, f.bs.length ≤ 140737488351232) (sv : Value) (l : List Opx) (hS : Sc B0 w sv l) (hsl : l.length ≤ 1172812402926) (hdl : ∀ o ∈ l, o.data.length ≤ 140737488351232 ∧ o.keep.length ≤ 17592186043904) : Calls Try.prog 7 #[.agg (mxC m a cap), sv] w fun e w' => e = .returned (.bool true) ∧ Turn no w w' := by
  obtain ⟨sa, sc, rfl, _⟩ := Sc.slice hS
  have T1 : Turn no w (w.alloc (.cells (mxC m a cap) 26)) := (Turn.refl no w).alloc _
  have r1 : Row (w.alloc (.cells (mxC m a cap) 26)) w.heap.size (mxC m a cap) 26 := Row.new w _ 26
  have hp := play36 _ (Nat.le_trans hB0 T1.size) m a cap (hF.turn_no T1) hl hb _ l (Sc.turn hS T1.of_no) hsl hdl 6 8
  have x0 := r1.cell 0 _ rfl
  have x1 := r1.cell 1 _ rfl
  have x2 := r1.cell 2 _ rfl
  have HT1 := shut T1
  clear hF hl hb hS hsl hdl T1 r1
  unfold mxC at *
  go_enter Try.func7, Try.ntmps7
  go_wp2_with fail
  refine hp.mono ?_
  rintro e w' ⟨rfl, t⟩
  have FIN := shut (HT1.out.then_no t)
  clear t
  go_wp2_with fail
  go_ret
  exact ⟨rfl, FIN.out⟩
set_option maxRecDepth 100000 in
set_option maxHeartbeats 4000000 in
theorem tells8 {B0 : Nat} (w : World) (hB0 : B0 ≤ w.heap.size) (m : Mx) (a : Option Addr) (cap : Nat) (hF : Fs B0 w a cap m.l) (hl : m.l.length ≤ 3518437208780) (hb : ∀ f ∈ m.l, f.bs.length ≤ 140737488351232) (sv : Value) (l : List Opx) (hS : Sc B0 w sv l) (hsl : l.length ≤ 1172812402926) (hdl : ∀ o ∈ l, o.data.length ≤ 140737488351232 ∧ o.keep.length ≤ 17592186043904) : Calls Try.prog 8 #[.agg (mxC m a cap), sv] w fun e w' => e = .returned (.bool true) ∧ Turn no w w' := by
  obtain ⟨sa, sc, rfl, _⟩ := Sc.slice hS
  have T1 : Turn no w (w.alloc (.cells (mxC m a cap) 26)) := (Turn.refl no w).alloc _
  have r1 : Row (w.alloc (.cells (mxC m a cap) 26)) w.heap.size (mxC m a cap) 26 := Row.new w _ 26
  have hp := play36 _ (Nat.le_trans hB0 T1.size) m a cap (hF.turn_no T1) hl hb _ l (Sc.turn hS T1.of_no) hsl hdl 9 11
  have x0 := r1.cell 0 _ rfl
  have x1 := r1.cell 1 _ rfl
  have x2 := r1.cell 2 _ rfl
  have HT1 := shut T1
  clear hF hl hb hS hsl hdl T1 r1
  unfold mxC at *
  go_enter Try.func8, Try.ntmps8
  go_wp2_with fail
  refine hp.mono ?_
  rintro e w' ⟨rfl, t⟩
  have FIN := shut (HT1.out.then_no t)
  clear t
  go_wp2_with fail
  go_ret
  exact ⟨rfl, FIN.out⟩
end Go.Proofs.Ytcdogciacchigab
