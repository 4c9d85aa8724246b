/- Turn and Proposer of the document. -/
import Derived.Test.YtbhimedajfkioaaKE1
namespace Go.Proofs.Ytbhimedajfkioaa
open Go.RowKit
set_option linter.unusedVariables false

set_option maxRecDepth 100000 in
set_option maxHeartbeats 1000000 in
theorem copied41 (w : World) (v : Value) (l : List Mb) (h : Ms w v l) (h0 : 0 < l.length) (hb : l.length ≤ 64) : Calls Try.prog 71 #[.agg #[v]] w fun e w' =>
    ∃ g cap, e = .returned (.slice (some ⟨g, 0, none⟩) l.length cap) ∧ Rw w' g cap l ∧ w.heap.size ≤ g ∧ Turn no w w' := by
  have T0 : Turn no w (w.alloc (.cells #[v] 24)) := (Turn.refl no w).alloc _
  have h1 := h.turn_no T0
  clear h
  obtain ⟨ad, cp, rfl, h⟩ := h1
  have hok := h.ok
  have hs := h.src
  clear h
  obtain ⟨n, hn⟩ : ∃ n, Hid (l.length = n) := ⟨_, rfl⟩
  have hn' : l.length = n := hn.out
  rw [hn'] at hs hb h0 T0 ⊢
  clear hn'
  go_enter Try.func71, Try.ntmps71
  go_wp2_with (at_builtin; refine wpList_append_srcN rfl (.tmp 4) (.tmp 6) rfl Try.underlying22 info44 rfl (by decide) (.slice none 0 0) 0 [] rfl (OwnN.nil _ _ _) (.slice ad n cp) n (flat l) rfl hs ?_ ?_ ?_)
  · omega
  · simp only [maxLen]; omega
  intro v1 w1 O1 G1
  obtain ⟨g, cap, e3, R⟩ := O1.rw (by first | exact hn.out.symm | (rw [Nat.zero_add]; exact hn.out.symm)) (by omega) hok
  have f1 : w.heap.size ≤ g := G1.fresh (B := w.heap.size) (fun g q => by cases q) (by simp) g (by rw [e3]; rfl)
  have T1 : Turn no w w1 := (T0.of_no.trans G1.turn (fun _ _ q => q)).mono (fun k hk q => by cases q)
  try rw [Nat.zero_add] at e3
  subst e3
  clear O1 G1 hs T0
  go_wp2_with fail
  go_ret
  exact ⟨g, cap, rfl, R, f1, T1⟩

set_option maxRecDepth 100000 in
set_option maxHeartbeats 1000000 in
theorem rturn25_bad (w : World) (v : Value) (l : List Mb) (h : Ms w v l) (k : Int) (hE : soundE l ≠ 0) : Calls Try.prog 37 #[.agg #[v], .int .i64 k] w fun e w' => e = .returned (.tuple #[.agg #[.slice none 0 0], .int .i64 (soundE l)]) ∧ Turn no w w' := by
  have T0 : Turn no w ((w.alloc (.cells #[v] 24)).alloc (.cells #[.slice none 0 0] 24)) := ((Turn.refl no w).alloc _).alloc _
  have B1 := Bx.new (w.alloc (.cells #[v] 24)) (.slice none 0 0) 24
  have hw := rsound24 _ v l (h.turn_no T0)
  have hne : (soundE l == 0) = false := by simp; exact hE
  rw [show (w.alloc (.cells #[v] 24)).heap.size = w.heap.size + 1 by simp] at B1
  clear h
  go_enter Try.func37, Try.ntmps37
  go_wp2_with fail
  refine hw.mono ?_
  rintro e w1 ⟨rfl, T1⟩
  have B2 := B1.turn_no T1
  have T := T0.then_no T1
  have c4 := B2.c
  have f4 := B2.f
  have c5 := B2.set (.slice none 0 0)
  clear hw B1 B2
  go_wp2_with fail
  exact bodyPost_ret (v := .tuple #[.agg #[.slice none 0 0], .int .i64 (soundE l)]) (by simp [results, Try.results37, go_sem, c5]) rfl ⟨rfl, T.set0 (by omega) _⟩

set_option maxRecDepth 100000 in
set_option maxHeartbeats 1000000 in
theorem rturn25_arg (w : World) (v : Value) (l : List Mb) (h : Ms w v l) (k : Int) (hE : soundE l = 0) (hk : k < 0 ∨ 65536 < k) : Calls Try.prog 37 #[.agg #[v], .int .i64 k] w fun e w' => e = .returned (.tuple #[.agg #[.slice none 0 0], .int .i64 2]) ∧ Turn no w w' := by
  have T0 : Turn no w ((w.alloc (.cells #[v] 24)).alloc (.cells #[.slice none 0 0] 24)) := ((Turn.refl no w).alloc _).alloc _
  have B1 := Bx.new (w.alloc (.cells #[v] 24)) (.slice none 0 0) 24
  have hw := rsound24 _ v l (h.turn_no T0)
  rw [hE] at hw
  rw [show (w.alloc (.cells #[v] 24)).heap.size = w.heap.size + 1 by simp] at B1
  clear h
  have hk' : k < 0 ∨ ¬ k < 0 ∧ 65536 < k := by omega
  clear hk
  rcases hk' with hk | ⟨hk0, hk⟩
  all_goals
    go_enter Try.func37, Try.ntmps37
    go_wp2_with fail
    refine hw.mono ?_
    rintro e w1 ⟨rfl, T1⟩
    have B2 := B1.turn_no T1
    have T := T0.then_no T1
    have c4 := B2.c
    have f4 := B2.f
    have c5 := B2.set (.slice none 0 0)
    clear hw B1 B2
    go_wp2_with fail
    exact bodyPost_ret (v := .tuple #[.agg #[.slice none 0 0], .int .i64 2]) (by simp [results, Try.results37, go_sem, c5]) rfl ⟨rfl, T.set0 (by omega) _⟩

set_option maxRecDepth 100000 in
set_option maxHeartbeats 1000000 in
theorem rturn25_yes (w : World) (v : Value) (l : List Mb) (h : Ms w v l) (k : Nat) (hE : soundE l = 0) (hk : k ≤ 65536) : Calls Try.prog 37 #[.agg #[v], .int .i64 k] w fun e w' => ∃ u, e = .returned (.tuple #[.agg #[u], .int .i64 0]) ∧ Made w.heap.size w' u (turnsN (tot l) l k) ∧ Turn no w w' := by
  have T0 : Turn no w ((w.alloc (.cells #[v] 24)).alloc (.cells #[.slice none 0 0] 24)) := ((Turn.refl no w).alloc _).alloc _
  have B0 := (Bx.new w v 24).turn_no ((Turn.refl no _).alloc (.cells #[.slice none 0 0] 24))
  have B1 := Bx.new (w.alloc (.cells #[v] 24)) (.slice none 0 0) 24
  have hw := rsound24 _ v l (h.turn_no T0)
  rw [hE] at hw
  obtain ⟨hn0, hn64, _, _⟩ := weigh_ok l (sound_ok l hE).1
  have hcl := fun W (T : Turn no w W) => copied41 W v l (h.turn_no T) (by omega) hn64
  have hpw := sound_pw l hE
  have htop := (weigh_ok l (sound_ok l hE).1).2.2.2
  rw [show (w.alloc (.cells #[v] 24)).heap.size = w.heap.size + 1 by simp] at B1
  have hin := fun i => turns_in (sound_in l hE) i
  have hln := fun i => turns_len (tot l) l i
  have htt := tot_le_top l (sound_ok l hE).1
  have hz0 : w.heap.size + 1 < ((w.alloc (.cells #[v] 24)).alloc (.cells #[.slice none 0 0] 24)).heap.size := by simp
  clear h hE
  have hkb : (k : Int) ≤ 65536 := by omega
  have hk0 : ¬ (k : Int) < 0 := by omega
  have hk1 : ¬ (65536 : Int) < (k : Int) := by omega
  obtain ⟨n, hn⟩ : ∃ n, Hid (l.length = n) := ⟨_, rfl⟩
  have hn' : l.length = n := hn.out
  rw [hn'] at hcl hn0 hn64
  obtain ⟨t, ht⟩ : ∃ t, Hid (tot l = t) := ⟨_, rfl⟩
  have ht' : tot l = t := ht.out
  rw [ht'] at hin hln htt htop ⊢
  have hln : ∀ i, (turnsN t l i).length = n := fun i => (hln i).trans hn'
  clear ht'
  go_enter Try.func37, Try.ntmps37
  clear hn'
  go_wp2_with fail
  refine hw.mono ?_
  rintro e w1 ⟨rfl, T1⟩
  have B2 := B1.turn_no T1
  have B02 := B0.turn_no T1
  have T := T0.then_no T1
  have hcl := hcl w1 T
  have c3 := B02.c
  have hz1 := T1.size
  clear hw B1 B0
  go_wp2_with fail
  refine hcl.mono ?_
  rintro e w2 ⟨g, cap, rfl, R, hg, T2⟩
  have B3 := B2.turn_no T2
  have T3 := T.then_no T2
  have hgw : w.heap.size + 1 < g := by omega
  have hrt := rtotal50 w2 (.slice (some ⟨g, 0, none⟩) n cap) l ⟨_, cap, by rw [show l.length = n from hn.out], R.at⟩ hpw
  clear hcl B2 B02 T1 T0 hg c3 hz1 hz0 T hpw
  go_wp2_with fail
  refine hrt.mono ?_
  rintro e w3 ⟨Rt, rfl, R1, _, _, e1⟩
  have e1 := e1.symm
  subst e1
  have hRt := (R1 (by rw [ht.out]; exact htop)).trans ht.out
  subst hRt
  clear hrt R1
  go_wp2_with fail
  go_loopw [9] (fun c wr => ∃ i : Nat, i ≤ k ∧ c = .int .i64 i ∧ Rw wr g cap (turnsN Rt l i) ∧ Turn (fun b => b = g) w2 wr) (fun c _ => k - (intOf c).toNat)
  case atStart => exact ⟨0, by omega, rfl, R, Turn.refl _ _⟩
  case round =>
    clear R
    obtain ⟨i, hi, rfl, R, TR⟩ := hrel
    by_cases hlt : i < k
    · have hlt' : (i : Int) < (k : Int) := by omega
      have hct := once42 wr g cap Rt _ R (hin i) htt (by rw [hln]; omega)
      rw [hln] at hct
      clear hin
      go_wp2_with fail
      refine hct.mono ?_
      rintro e w4 ⟨rfl, R4, T4⟩
      have TR4 := TR.trans T4 (fun _ _ q => q)
      clear hct R
      go_wp2_with fail
      go_roundw
      case rel => exact ⟨i + 1, by omega, by go_num, R4, TR4⟩
      case measure => simp [intOf]; omega
    · have hkn : i = k := by omega
      subst hkn
      have hlt' : ¬ (i : Int) < (i : Int) := by omega
      have B4 := B3.turn TR (fun q => by omega)
      have c4 := B4.c
      have f4 := B4.f
      have c5 := B4.set (.slice (some ⟨g, 0, none⟩) n cap)
      have Tw : Turn no w wr := (T3.of_no.trans TR (fun _ _ q => q)).mono (fun b hb q => by omega)
      have R3 := R.turn ((Turn.refl (fun b => b = w.heap.size + 1) wr).setCell (p := ⟨w.heap.size + 1, 0, none⟩) (fun _ => rfl) (.slice (some ⟨g, 0, none⟩) n cap)) (fun q => by omega)
      have MD : Made w.heap.size (wr.setCell ⟨w.heap.size + 1, 0, none⟩ (.slice (some ⟨g, 0, none⟩) n cap)) (.slice (some ⟨g, 0, none⟩) n cap) (turnsN Rt l i) := ⟨g, cap, by rw [hln], R3, by omega⟩
      have T5 := Tw.set0 (g := w.heap.size + 1) (by omega) (.slice (some ⟨g, 0, none⟩) n cap)
      clear R R3 B3 B4 hin hln Tw TR
      go_wp2_with fail
      exact bodyPost_ret (v := .tuple #[.agg #[.slice (some ⟨g, 0, none⟩) n cap], .int .i64 0]) (by simp [results, Try.results37, go_sem, c5]) rfl ⟨_, rfl, MD, T5⟩
end Go.Proofs.Ytbhimedajfkioaa
