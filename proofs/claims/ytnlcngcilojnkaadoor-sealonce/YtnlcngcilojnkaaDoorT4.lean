/- truth of a sight. -/
import Derived.Test.YtnlcngcilojnkaaDoorT2
import Derived.Deep.RegionHeld3
namespace Go.Proofs.YtnlcngcilojnkaaDoor
open Go.RowKit Go.Maps Go.MuLone
set_option linter.unusedVariables false
section
variable {base sw : Nat} {w : World} {d : Nat → Sd} {vb : Value} {B : List Wr}

/-- Bytes don't lie in a registry's own cells. -/
theorem Bk.bytes_off {w : World} {p br bt : Nat} {V : UInt64 → Value} {E : List UInt64} {R : List Rec} (h : Bk w p br bt V E R) {va : Value} {bs : List UInt8} (hb : Bs w va bs) : bs ≠ [] → va.ownBlock ≠ some p := fun hne hg => by
  obtain ⟨D1, D2, hr, _⟩ := h.reg
  have hpos : 0 < bs.length := List.length_pos_iff.2 hne
  obtain ⟨b, off, cap, rfl, _, hc⟩ := hb.at hpos
  obtain rfl : b = p := by simpa [Value.ownBlock] using hg
  have c := hc 0 hpos
  rw [cell_of_row _ b (off + 0) _ 57 (0, 0) hr.row] at c
  have hoff : off < 5 := by
    have := (Array.getElem?_eq_some_iff.1 c).1
    simpa [regC] using this
  rcases (show off = 0 ∨ off = 1 ∨ off = 2 ∨ off = 3 ∨ off = 4 by omega) with rfl | rfl | rfl | rfl | rfl <;> simp [regC] at c

theorem Sight.checked (h : Sight base w sw d vb B) {k : Nat} (hk : k < 2) {w' : World} (t : Turn (fun g => g = (d k).p) w w') (hB : Bk w' (d k).p (d k).br (d k).bt (d k).V (d k).E (recs B k)) : Sight base w' sw d vb B ∧ Turn (fun g => base ≤ g) w w' := by
  have hpf : SFp (d k) (d k).p := .inl (.inl rfl)
  have row1 := h.row.turn t (fun q => h.sw_away hk (by rw [q]; exact hpf))
  have s1 : Side w' (d k) (recs B k) := by
    have hs := h.side k hk
    refine ⟨hB, hs.os.turn t (fun g hg q => ?_), hs.oa.turn t (fun g hg q => ?_), hs.len, fun j q a h1 h2 => Row.turn (hs.sg j q a h1 h2) t (fun e => ?_)⟩
    · obtain ⟨c, ho⟩ := hs.os.obj hg
      subst q
      exact hs.bk.away ho (by decide) (by decide) (.inl rfl)
    · obtain ⟨c, ho⟩ := hs.oa.obj hg
      subst q
      exact hs.bk.away ho (by decide) (by decide) (.inl rfl)
    · exact hs.bk.away (hs.sg j q a h1 h2) (by decide) (by decide) (.inl e)
  have hu : updS d k (d k) = d := by
    funext j
    unfold updS
    split
    · next e => rw [e]
    · rfl
  refine ⟨?_, t.mono (fun g _ q => by subst q; exact h.fresh k _ hk hpf)⟩
  have := h.upd hk t (fun g q => .inl (by subst q; exact hpf)) (d k) (by rw [hu]; exact row1) s1 (fun g q => .inl q) (h.book.turn t (fun g hg q => by subst q; exact h.vb_away hk hg hpf)) h.fb h.who (fun j _ => rfl)
  rwa [hu] at this

set_option maxRecDepth 100000 in
set_option maxHeartbeats 1000000 in
theorem truth36 (h : Sight base w sw d vb B) {k : Nat} (hk : k < 2) (a : UInt64) (va : Value) (bs : List UInt8) (hb : Bs w va bs) (X : List UInt8) (hx : X.length = 16) (hl : Laid1 w) (h2 : 2 ≤ base) :
    Calls Tryd.prog 36 #[.pointer (some ⟨sw, 0, none⟩), .int .i64 k, .int .u64 a.toNat, va, .agg (X.map bv).toArray] w fun e w' => e = .returned (.bool true) ∧ Sight base w' sw d vb B ∧ Turn (fun g => g = (d k).p) w w' := by
  have hk' : (k : Int) < 2 := by omega
  have hXl : (X.map bv).length = 16 := by simpa using hx
  have T0 : Turn no w (w.alloc (.cells (X.map bv).toArray 33)) := (Turn.refl no w).alloc _
  have RX := Row.new w (X.map bv).toArray 33
  have h0 := h.turn_no T0
  have hb0 := hb.turn_no T0
  have hl0 := hl.turn T0 (fun q => q)
  have hs0 := T0.size
  have hbp := h.hb
  have hp2 : base ≤ (d k).p := h.fresh k _ hk (.inl (.inl rfl))
  have hXp : w.heap.size ≠ (d k).p := fun q => by have := (h.side k hk).lt (g := (d k).p) (.inl (.inl rfl)); omega
  have hu := Tryd.underlying33
  have hi : (Tryd.prog.info? 33).map (·.size) = some (X.map bv).length := by rw [hXl]; exact size33
  have htext := fun W (b : Bs W va bs) => bytes_text b
  obtain ⟨va', vc, hva⟩ := hb.slice
  subst hva
  have hfind := find44 (w.alloc (.cells (X.map bv).toArray 33)) sw k vb B a bs h0.c6 h0.at
  have hcheck := fun W (H : Sight base W sw d vb B) (b : Bs W (.slice va' bs.length vc) bs) (l : Laid1 W) (h2 : 2 ≤ W.heap.size) => (H.side k hk).bk.check a _ bs b ((H.side k hk).bk.bytes_off b) X hx l h2 (by omega) (fun q => by have := (h.who _ ((mem_recs B k (a, bs)).1 q)).2; simp only at this; omega)
  have hmem := mem_recs B k (a, bs)
  by_cases hin : (k, a, bs) ∈ B
  · have hin' : decide ((a, bs) ∈ recs B k) = true := by simpa using hmem.2 hin
    rw [hin'] at hcheck
    have heq := fun W => eql33 W (sealB a bs) X (sealB_len a bs) hx
    have hbc : (X == sealB a bs) = (sealB a bs == X) := BEq.comm
    simp only [hbc, Bool.true_and] at hcheck
    generalize (sealB a bs == X) = bq at *
    have hsl : ∀ j, B[j]? = some (k, a, bs) → ∀ W, Sight base W sw d vb B → ∃ g cap, vb = .slice (some ⟨g, 0, none⟩) B.length cap ∧ W.rangeAt g (j * 19 + 3) ((sealB a bs).map bv) := fun j hj W H => by
      obtain ⟨g, cap, e, hr, _⟩ := H.seal hj
      exact ⟨g, cap, e, hr⟩
    have hSl : ((sealB a bs).map bv).length = 16 := by simp [sealB_len]
    have hi2 : (Tryd.prog.info? 33).map (·.size) = some ((sealB a bs).map bv).length := by rw [hSl]; exact size33
    generalize (sealB a bs).map bv = SL at *
    generalize X.map bv = XL at *
    clear hmem hin' hbc
    go_enter Tryd.func36, Tryd.ntmps36
    go_wp2_with fail
    generalize w.alloc (.cells XL.toArray 33) = w1 at *
    generalize w.heap.size = gx at *
    have c := htext w1 hb0
    go_wp2_with fail
    refine hfind.mono ?_
    rintro e w2 ⟨hj | ⟨_, hno⟩, e2⟩
    case inr => exact absurd hin hno
    obtain ⟨j, rfl, hj⟩ := hj
    have e2 := e2.symm
    subst e2
    have hjl : j < B.length := (List.getElem?_eq_some_iff.1 hj).1
    obtain ⟨g, cap, hvb, _⟩ := hsl j hj w1 h0
    obtain ⟨N, hN⟩ : ∃ N, Shut (B.length = N) := ⟨_, rfl⟩
    rw [show B.length = N from hN.out] at hvb hjl
    have hjl' : (j : Int) < (N : Int) := by omega
    have hj0 : ¬ (j : Int) < 0 := by omega
    have hj1 : (0 : Int) ≤ (j : Int) := by omega
    have Hno : ∀ W, Turn no w1 W → Sight base W sw d vb B := fun W t => h0.turn_no t
    have Hsl : ∀ W, Turn no w1 W → W.rangeAt g (j * 19 + 3) SL := fun W t => by
      obtain ⟨g', cap', e', hr⟩ := hsl j hj W (Hno W t)
      rw [hvb] at e'
      cases e'
      exact hr
    have Hvb : ∀ W, Turn no w1 W → W.cell? ⟨sw, 6, none⟩ = some (.slice (some ⟨g, 0, none⟩) N cap) := fun W t => by rw [← hvb]; exact (Hno W t).c6
    clear hfind hsl c
    go_wp2_with fail
    refine wp_region_held_drew (S := fun W => Turn no w1 W) (by kernel_rfl) (Turn.refl no w1).drew (fun hHeld => ?_)
    refine' wpAnyH_take (i := 0) (v := .int .i64 j) rfl (by kernel_rfl) (by kernel_rfl) (by kernel_rfl) (fun _ _ _ h => h) (Or.inl ⟨by kernel_rfl, fun W hW => ?y1⟩) hHeld ?r1
    · go_simp
    refine' wpAnyH_take (i := 1) (v := .bool true) rfl (by kernel_rfl) (by kernel_rfl) (by kernel_rfl) (fun _ _ _ h => h) (Or.inl ⟨by kernel_rfl, fun W hW => ?y2⟩) hHeld ?r2
    · go_simp
    refine' wpAnyH_take (i := 2) (v := .bool true) rfl (by kernel_rfl) (by kernel_rfl) (by kernel_rfl) (fun _ _ _ h => h) (Or.inl ⟨by kernel_rfl, fun W hW => ?y3⟩) hHeld ?r3
    · go_simp
    refine' wpAnyH_take (i := 3) (v := .pointer (some ⟨sw, 0, none⟩)) rfl (by kernel_rfl) (by kernel_rfl) (by kernel_rfl) (fun _ _ _ h => h) (Or.inl ⟨by kernel_rfl, fun W hW => ?y4⟩) hHeld ?r4
    · go_simp
    refine' wpAnyH_take (i := 4) (v := .pointer (some ⟨sw, 0, none⟩)) rfl (by kernel_rfl) (by kernel_rfl) (by kernel_rfl) (fun _ _ _ h => h) (Or.inl ⟨by kernel_rfl, fun W hW => ?y5⟩) hHeld ?r5
    · go_simp
    refine' wpAnyH_take (i := 5) (v := .pointer (some ⟨sw, 6, none⟩)) rfl (by kernel_rfl) (by kernel_rfl) (by kernel_rfl) (fun _ _ _ h => h) (Or.inl ⟨by kernel_rfl, fun W hW => ?y6⟩) hHeld ?r6
    · go_simp
    refine' wpAnyH_take (i := 6) (v := .slice (some ⟨g, 0, none⟩) N cap) rfl (by kernel_rfl) (by kernel_rfl) (by kernel_rfl) (fun _ _ _ h => h) (Or.inl ⟨by kernel_rfl, fun W hW => ?y7⟩) hHeld ?r7
    · have c := Hvb W hW
      go_simp
    refine' wpAnyH_take (i := 7) (v := .int .i64 j) rfl (by kernel_rfl) (by kernel_rfl) (by kernel_rfl) (fun _ _ _ h => h) (Or.inl ⟨by kernel_rfl, fun W hW => ?y8⟩) hHeld ?r8
    · go_simp
    refine' wpAnyH_take (i := 8) (v := .pointer (some ⟨g, j * 19, none⟩)) rfl (by kernel_rfl) (by kernel_rfl) (by kernel_rfl) (fun _ _ _ h => h) (Or.inl ⟨by kernel_rfl, fun W hW => ?y9⟩) hHeld ?r9
    · go_simp
    refine' wpAnyH_take (i := 9) (v := .pointer (some ⟨g, j * 19 + 3, none⟩)) rfl (by kernel_rfl) (by kernel_rfl) (by kernel_rfl) (fun _ _ _ h => h) (Or.inl ⟨by kernel_rfl, fun W hW => ?y10⟩) hHeld ?r10
    · go_simp
    refine' wpAnyH_take (i := 10) (v := _) rfl (by kernel_rfl) (by kernel_rfl) (by kernel_rfl) (fun _ _ _ h => h) (yieldsIf_load_mid (by kernel_rfl) _ _ rfl g (j * 19 + 3) (by kernel_rfl) SL _ (fun W h => Hsl W h) hu rfl hi2) hHeld ?rl1
    refine' wpAnyH_take (i := 11) (v := _) rfl (by kernel_rfl) (by kernel_rfl) (by kernel_rfl) (fun _ _ _ h => h) (yieldsIf_load_mid (by kernel_rfl) _ _ rfl gx 0 (by kernel_rfl) XL _ (fun W h => (RX.turn h (fun q => q)).range) hu rfl hi) hHeld ?rl2
    refine' wpAnyH_take (i := 12) (v := .bool bq) rfl (by kernel_rfl) (by kernel_rfl) (by kernel_rfl) (fun _ _ _ h => h) (Or.inl ⟨by kernel_rfl, fun W hW => ?y11⟩) hHeld ?r11
    · go_simp
    refine' wpAnyH_take (i := 13) (v := .bool bq) rfl (by kernel_rfl) (by kernel_rfl) (by kernel_rfl) (fun _ _ _ h => h) (Or.inl ⟨by kernel_rfl, fun W hW => ?y12⟩) hHeld ?r12
    · go_simp
    refine wpAnyH_ready (rs := [14]) (by kernel_rfl) (by simp) ?_
    refine AllReadyH.cons rfl (fun K hK => ?_) AllReadyH.nil
    go_simp
    refine hK.out _ _ hHeld (fun hHeld => ?_)
    clear hK
    refine wpAnyH_done (by kernel_rfl) ?_ _
    have h1 := h0.turn_no (Turn.refl no w1).drew
    have hb1 := hb0.turn_no (Turn.refl no w1).drew
    have hl1 := hl0.turn (Turn.refl no w1).drew (fun q => q)
    have RX1 := RX.turn (Turn.refl no w1).drew (fun q => q)
    have T1 : Turn no w w1.drew := T0.drew
    have hs1 : base ≤ w1.drew.heap.size := Nat.le_trans hbp hs0
    clear Hsl Hvb hHeld h0 hb0 hl0 RX T0 Hno
    generalize w1.drew = w3 at *
    go_wp2_with fail
    refine wp_region_held_drew (S := fun W => Turn (fun g => g = (d k).p) w3 W) (by kernel_rfl) (Turn.refl _ w3).drew (fun hHeld => ?_)
    have Hp : ∀ W, Turn (fun g => g = (d k).p) w3 W → W.cell? ⟨sw, k, none⟩ = some (.pointer (some ⟨(d k).p, 0, none⟩)) := fun W t => by
      refine t.keep (h1.c0 hk) (fun q => h1.sw_away hk (.inl (.inl q)))
    refine' wpAnyH_take (i := 0) (v := .pointer (some ⟨sw, 0, none⟩)) rfl (by kernel_rfl) (by kernel_rfl) (by kernel_rfl) (fun _ _ _ h => h) (Or.inl ⟨by kernel_rfl, fun W hW => ?y13⟩) hHeld ?r13
    · go_simp
    refine' wpAnyH_take (i := 1) (v := .int .i64 k) rfl (by kernel_rfl) (by kernel_rfl) (by kernel_rfl) (fun _ _ _ h => h) (Or.inl ⟨by kernel_rfl, fun W hW => ?y14⟩) hHeld ?r14
    · go_simp
    refine' wpAnyH_take (i := 2) (v := .pointer (some ⟨sw, 0, none⟩)) rfl (by kernel_rfl) (by kernel_rfl) (by kernel_rfl) (fun _ _ _ h => h) (Or.inl ⟨by kernel_rfl, fun W hW => ?y15⟩) hHeld ?r15
    · go_simp
    refine' wpAnyH_take (i := 3) (v := .pointer (some ⟨sw, 0, none⟩)) rfl (by kernel_rfl) (by kernel_rfl) (by kernel_rfl) (fun _ _ _ h => h) (Or.inl ⟨by kernel_rfl, fun W hW => ?y16⟩) hHeld ?r16
    · go_simp
    refine' wpAnyH_take (i := 4) (v := .pointer (some ⟨sw, k, none⟩)) rfl (by kernel_rfl) (by kernel_rfl) (by kernel_rfl) (fun _ _ _ h => h) (Or.inl ⟨by kernel_rfl, fun W hW => ?y17⟩) hHeld ?r17
    · go_simp
    refine' wpAnyH_take (i := 5) (v := .pointer (some ⟨(d k).p, 0, none⟩)) rfl (by kernel_rfl) (by kernel_rfl) (by kernel_rfl) (fun _ _ _ h => h) (Or.inl ⟨by kernel_rfl, fun W hW => ?y18⟩) hHeld ?r18
    · have c := Hp W hW
      go_simp
    refine' wpAnyH_take (i := 6) (v := .int .u64 a.toNat) rfl (by kernel_rfl) (by kernel_rfl) (by kernel_rfl) (fun _ _ _ h => h) (Or.inl ⟨by kernel_rfl, fun W hW => ?y19⟩) hHeld ?r19
    · go_simp
    refine' wpAnyH_take (i := 7) (v := .slice va' bs.length vc) rfl (by kernel_rfl) (by kernel_rfl) (by kernel_rfl) (fun _ _ _ h => h) (Or.inl ⟨by kernel_rfl, fun W hW => ?y20⟩) hHeld ?r20
    · go_simp
    refine' wpAnyH_take (i := 8) (v := _) rfl (by kernel_rfl) (by kernel_rfl) (by kernel_rfl) (fun _ _ _ h => h) (yieldsIf_load_mid (by kernel_rfl) _ _ rfl gx 0 (by kernel_rfl) XL _ (fun W h => (RX1.turn h (fun q => hXp q)).range) hu rfl hi) hHeld ?rl3
    refine' wpAnyH_take (i := 10) (v := .bool bq) rfl (by kernel_rfl) (by kernel_rfl) (by kernel_rfl) (fun _ _ _ h => h) (Or.inl ⟨by kernel_rfl, fun W hW => ?y21⟩) hHeld ?r21
    · go_simp
    refine wpAnyH_ready (rs := [9]) (by kernel_rfl) (by simp) ?_
    refine AllReadyH.cons rfl (fun K hK => ?_) AllReadyH.nil
    go_simp
    refine (hcheck _ (h1.turn_no (Turn.refl no w3).drew) (hb1.turn_no (Turn.refl no w3).drew) (hl1.turn (Turn.refl no w3).drew (fun q => q)) (by show 2 ≤ w3.heap.size; omega)).mono ?_
    rintro e w4 ⟨rfl, hB4, t4⟩
    have t4' : Turn (fun g => g = (d k).p) w3 w4 := ((Turn.refl no w3).drew.of_no).trans t4 (fun _ _ q => q)
    go_wp2_with fail
    refine hK.out _ _ t4' (fun hHeld => ?_)
    clear hK
    refine' wpAnyH_take (i := 11) (v := .bool true) rfl (by kernel_rfl) (by kernel_rfl) (by kernel_rfl) (fun _ _ _ h => h) (Or.inl ⟨by kernel_rfl, fun W hW => ?y22⟩) hHeld ?r22
    · go_simp
    refine wpAnyH_ready (rs := [12]) (by kernel_rfl) (by simp) ?_
    refine AllReadyH.cons rfl (fun K hK => ?_) AllReadyH.nil
    go_simp
    refine hK.out _ _ hHeld (fun hHeld => ?_)
    clear hK
    refine wpAnyH_done (by kernel_rfl) ?_ _
    go_wp2_with fail
    go_ret
    obtain ⟨S4, u4⟩ := h1.checked hk t4' hB4
    exact ⟨rfl, S4, T1.of_no.trans t4' (fun _ _ q => q)⟩
  · have hin' : decide ((a, bs) ∈ recs B k) = false := by simpa using fun q => hin (hmem.1 q)
    rw [hin'] at hcheck
    simp only [Bool.false_and] at hcheck
    generalize X.map bv = XL at *
    clear hmem hin'
    go_enter Tryd.func36, Tryd.ntmps36
    go_wp2_with fail
    generalize w.alloc (.cells XL.toArray 33) = w1 at *
    generalize w.heap.size = gx at *
    have c := htext w1 hb0
    go_wp2_with fail
    refine hfind.mono ?_
    rintro e w2 ⟨⟨j, _, hj⟩ | ⟨rfl, hno⟩, e2⟩
    case inl => exact absurd (List.mem_of_getElem? hj) hin
    have e2 := e2.symm
    subst e2
    clear hfind c
    go_wp2_with fail
    refine wp_region_held_drew (S := fun W => Turn no w1 W) (by kernel_rfl) (Turn.refl no w1).drew (fun hHeld => ?_)
    refine' wpAnyH_take (i := 0) (v := .int .i64 (-1)) rfl (by kernel_rfl) (by kernel_rfl) (by kernel_rfl) (fun _ _ _ h => h) (Or.inl ⟨by kernel_rfl, fun W hW => ?y23⟩) hHeld ?r23
    · go_simp
    refine' wpAnyH_take (i := 1) (v := .bool false) rfl (by kernel_rfl) (by kernel_rfl) (by kernel_rfl) (fun _ _ _ h => h) (Or.inl ⟨by kernel_rfl, fun W hW => ?y24⟩) hHeld ?r24
    · go_simp
    refine' wpAnyH_take (i := 2) (v := .bool false) rfl (by kernel_rfl) (by kernel_rfl) (by kernel_rfl) (fun _ _ _ h => h) (Or.inl ⟨by kernel_rfl, fun W hW => ?y25⟩) hHeld ?r25
    · go_simp
    refine' wpAnyH_take (i := 3) (v := undef) rfl (by kernel_rfl) (by kernel_rfl) (by kernel_rfl) (fun _ _ _ h => h) (Or.inr ⟨by kernel_rfl, rfl⟩) hHeld ?r26
    refine' wpAnyH_take (i := 4) (v := undef) rfl (by kernel_rfl) (by kernel_rfl) (by kernel_rfl) (fun _ _ _ h => h) (Or.inr ⟨by kernel_rfl, rfl⟩) hHeld ?r27
    refine' wpAnyH_take (i := 5) (v := undef) rfl (by kernel_rfl) (by kernel_rfl) (by kernel_rfl) (fun _ _ _ h => h) (Or.inr ⟨by kernel_rfl, rfl⟩) hHeld ?r28
    refine' wpAnyH_take (i := 6) (v := undef) rfl (by kernel_rfl) (by kernel_rfl) (by kernel_rfl) (fun _ _ _ h => h) (Or.inr ⟨by kernel_rfl, rfl⟩) hHeld ?r29
    refine' wpAnyH_take (i := 7) (v := undef) rfl (by kernel_rfl) (by kernel_rfl) (by kernel_rfl) (fun _ _ _ h => h) (Or.inr ⟨by kernel_rfl, rfl⟩) hHeld ?r30
    refine' wpAnyH_take (i := 8) (v := undef) rfl (by kernel_rfl) (by kernel_rfl) (by kernel_rfl) (fun _ _ _ h => h) (Or.inr ⟨by kernel_rfl, rfl⟩) hHeld ?r31
    refine' wpAnyH_take (i := 9) (v := undef) rfl (by kernel_rfl) (by kernel_rfl) (by kernel_rfl) (fun _ _ _ h => h) (Or.inr ⟨by kernel_rfl, rfl⟩) hHeld ?r32
    refine' wpAnyH_take (i := 10) (v := undef) rfl (by kernel_rfl) (by kernel_rfl) (by kernel_rfl) (fun _ _ _ h => h) (Or.inr ⟨by kernel_rfl, rfl⟩) hHeld ?r33
    refine' wpAnyH_take (i := 11) (v := undef) rfl (by kernel_rfl) (by kernel_rfl) (by kernel_rfl) (fun _ _ _ h => h) (Or.inr ⟨by kernel_rfl, rfl⟩) hHeld ?r34
    refine' wpAnyH_take (i := 12) (v := undef) rfl (by kernel_rfl) (by kernel_rfl) (by kernel_rfl) (fun _ _ _ h => h) (Or.inr ⟨by kernel_rfl, rfl⟩) hHeld ?r35
    refine' wpAnyH_take (i := 13) (v := .bool false) rfl (by kernel_rfl) (by kernel_rfl) (by kernel_rfl) (fun _ _ _ h => h) (Or.inl ⟨by kernel_rfl, fun W hW => ?y36⟩) hHeld ?r36
    · go_simp
    refine wpAnyH_ready (rs := [14]) (by kernel_rfl) (by simp) ?_
    refine AllReadyH.cons rfl (fun K hK => ?_) AllReadyH.nil
    go_simp
    refine hK.out _ _ hHeld (fun hHeld => ?_)
    clear hK
    refine wpAnyH_done (by kernel_rfl) ?_ _
    have h1 := h0.turn_no (Turn.refl no w1).drew
    have hb1 := hb0.turn_no (Turn.refl no w1).drew
    have hl1 := hl0.turn (Turn.refl no w1).drew (fun q => q)
    have RX1 := RX.turn (Turn.refl no w1).drew (fun q => q)
    have T1 : Turn no w w1.drew := T0.drew
    have hs1 : base ≤ w1.drew.heap.size := Nat.le_trans hbp hs0
    clear hHeld h0 hb0 hl0 RX T0
    generalize w1.drew = w3 at *
    go_wp2_with fail
    refine wp_region_held_drew (S := fun W => Turn (fun g => g = (d k).p) w3 W) (by kernel_rfl) (Turn.refl _ w3).drew (fun hHeld => ?_)
    have Hp : ∀ W, Turn (fun g => g = (d k).p) w3 W → W.cell? ⟨sw, k, none⟩ = some (.pointer (some ⟨(d k).p, 0, none⟩)) := fun W t => by
      refine t.keep (h1.c0 hk) (fun q => h1.sw_away hk (.inl (.inl q)))
    refine' wpAnyH_take (i := 0) (v := .pointer (some ⟨sw, 0, none⟩)) rfl (by kernel_rfl) (by kernel_rfl) (by kernel_rfl) (fun _ _ _ h => h) (Or.inl ⟨by kernel_rfl, fun W hW => ?y37⟩) hHeld ?r37
    · go_simp
    refine' wpAnyH_take (i := 1) (v := .int .i64 k) rfl (by kernel_rfl) (by kernel_rfl) (by kernel_rfl) (fun _ _ _ h => h) (Or.inl ⟨by kernel_rfl, fun W hW => ?y38⟩) hHeld ?r38
    · go_simp
    refine' wpAnyH_take (i := 2) (v := .pointer (some ⟨sw, 0, none⟩)) rfl (by kernel_rfl) (by kernel_rfl) (by kernel_rfl) (fun _ _ _ h => h) (Or.inl ⟨by kernel_rfl, fun W hW => ?y39⟩) hHeld ?r39
    · go_simp
    refine' wpAnyH_take (i := 3) (v := .pointer (some ⟨sw, 0, none⟩)) rfl (by kernel_rfl) (by kernel_rfl) (by kernel_rfl) (fun _ _ _ h => h) (Or.inl ⟨by kernel_rfl, fun W hW => ?y40⟩) hHeld ?r40
    · go_simp
    refine' wpAnyH_take (i := 4) (v := .pointer (some ⟨sw, k, none⟩)) rfl (by kernel_rfl) (by kernel_rfl) (by kernel_rfl) (fun _ _ _ h => h) (Or.inl ⟨by kernel_rfl, fun W hW => ?y41⟩) hHeld ?r41
    · go_simp
    refine' wpAnyH_take (i := 5) (v := .pointer (some ⟨(d k).p, 0, none⟩)) rfl (by kernel_rfl) (by kernel_rfl) (by kernel_rfl) (fun _ _ _ h => h) (Or.inl ⟨by kernel_rfl, fun W hW => ?y42⟩) hHeld ?r42
    · have c := Hp W hW
      go_simp
    refine' wpAnyH_take (i := 6) (v := .int .u64 a.toNat) rfl (by kernel_rfl) (by kernel_rfl) (by kernel_rfl) (fun _ _ _ h => h) (Or.inl ⟨by kernel_rfl, fun W hW => ?y43⟩) hHeld ?r43
    · go_simp
    refine' wpAnyH_take (i := 7) (v := .slice va' bs.length vc) rfl (by kernel_rfl) (by kernel_rfl) (by kernel_rfl) (fun _ _ _ h => h) (Or.inl ⟨by kernel_rfl, fun W hW => ?y44⟩) hHeld ?r44
    · go_simp
    refine' wpAnyH_take (i := 8) (v := _) rfl (by kernel_rfl) (by kernel_rfl) (by kernel_rfl) (fun _ _ _ h => h) (yieldsIf_load_mid (by kernel_rfl) _ _ rfl gx 0 (by kernel_rfl) XL _ (fun W h => (RX1.turn h (fun q => hXp q)).range) hu rfl hi) hHeld ?rm3
    refine' wpAnyH_take (i := 10) (v := .bool false) rfl (by kernel_rfl) (by kernel_rfl) (by kernel_rfl) (fun _ _ _ h => h) (Or.inl ⟨by kernel_rfl, fun W hW => ?y45⟩) hHeld ?r45
    · go_simp
    refine wpAnyH_ready (rs := [9]) (by kernel_rfl) (by simp) ?_
    refine AllReadyH.cons rfl (fun K hK => ?_) AllReadyH.nil
    go_simp
    refine (hcheck _ (h1.turn_no (Turn.refl no w3).drew) (hb1.turn_no (Turn.refl no w3).drew) (hl1.turn (Turn.refl no w3).drew (fun q => q)) (by show 2 ≤ w3.heap.size; omega)).mono ?_
    rintro e w4 ⟨rfl, hB4, t4⟩
    have t4' : Turn (fun g => g = (d k).p) w3 w4 := ((Turn.refl no w3).drew.of_no).trans t4 (fun _ _ q => q)
    go_wp2_with fail
    refine hK.out _ _ t4' (fun hHeld => ?_)
    clear hK
    refine' wpAnyH_take (i := 11) (v := .bool true) rfl (by kernel_rfl) (by kernel_rfl) (by kernel_rfl) (fun _ _ _ h => h) (Or.inl ⟨by kernel_rfl, fun W hW => ?y46⟩) hHeld ?r46
    · go_simp
    refine wpAnyH_ready (rs := [12]) (by kernel_rfl) (by simp) ?_
    refine AllReadyH.cons rfl (fun K hK => ?_) AllReadyH.nil
    go_simp
    refine hK.out _ _ hHeld (fun hHeld => ?_)
    clear hK
    refine wpAnyH_done (by kernel_rfl) ?_ _
    go_wp2_with fail
    go_ret
    obtain ⟨S4, u4⟩ := h1.checked hk t4' hB4
    exact ⟨rfl, S4, T1.of_no.trans t4' (fun _ _ q => q)⟩
end
end Go.Proofs.YtnlcngcilojnkaaDoor
