/- Turn and Proposer of the program. -/
import Derived.Test.YtcmoocoklhjkfaaD2
namespace Go.Proofs.Ytcmoocoklhjkfaa
open Go.RowKit
set_option linter.unusedVariables false

/-- So many turns. -/
def turnsN (t : Nat) (l : List Mb) : Nat → List Mb
  | 0 => l
  | k + 1 => turnL t (turnsN t l k)
/-- Who is chosen in turn k + 1. -/
def propN (t : Nat) (l : List Mb) (k : Nat) : Nat := ((turnsN t l (k + 1)).getD (best (up t (turnsN t l k))) mb0).ad
theorem turns_len (t : Nat) (l : List Mb) (k : Nat) : (turnsN t l k).length = l.length := by
  induction k with
  | zero => rfl
  | succ k ih => rw [turnsN, turn_len, ih]
theorem turns_keys (t : Nat) (l : List Mb) (k : Nat) : keys (turnsN t l k) = keys l := by
  induction k with
  | zero => rfl
  | succ k ih => rw [turnsN, keys_turn, ih]
theorem turns_in {t : Nat} {l : List Mb} (h : InR t l) (k : Nat) : InR t (turnsN t l k) := by
  induction k with
  | zero => exact h
  | succ k ih => exact ih.turn
theorem pw_le_tot (l : List Mb) : ∀ m ∈ l, m.pw ≤ tot l := by
  induction l with
  | nil => intro m hm; cases hm
  | cons x r ih =>
    intro m hm
    rcases List.mem_cons.1 hm with rfl | hm
    · simp [tot]
    · have := ih m hm
      simp [tot]
      omega
theorem sound_in (l : List Mb) (h : soundE l = 0) : InR (tot l) l := fun m hm => by
  have := (sound_ok l h).2 m hm
  exact ⟨this.1, this.2, pw_le_tot l m hm⟩
theorem weigh_rising (l : List Mb) (h : weighE l = 0) : Rising l := scan_rising l 0 (weigh_ok l h).2.2.1
theorem tot_le_top (l : List Mb) (h : weighE l = 0) : tot l ≤ 1152921504606846975 := (weigh_ok l h).2.2.2

set_option maxRecDepth 100000 in
set_option maxHeartbeats 1000000 in
theorem turn10_bad (w : World) (v : Value) (l : List Mb) (h : Ms w v l) (k : Int) (hE : soundE l ≠ 0) : Calls Try.prog 10 #[.agg #[v], .int .i64 k] w fun e w' => e = .returned (.tuple #[.agg #[.slice none 0 0], .int .i64 (soundE l)]) ∧ Turn no w w' := by
  have T0 : Turn no w ((w.alloc (.cells #[v] 24)).alloc (.cells #[.slice none 0 0] 24)) := ((Turn.refl no w).alloc _).alloc _
  have B1 := Bx.new (w.alloc (.cells #[v] 24)) (.slice none 0 0) 24
  have hw := total32 _ v l (h.turn_no T0)
  have hne : (soundE l == 0) = false := by simp; exact hE
  rw [show (w.alloc (.cells #[v] 24)).heap.size = w.heap.size + 1 by simp] at B1
  clear h
  go_enter Try.func10, Try.ntmps10
  go_wp2_with fail
  refine hw.mono ?_
  rintro e w1 ⟨rfl, T1⟩
  have B2 := B1.turn_no T1
  have T := T0.then_no T1
  have c4 := B2.c
  have f4 := B2.f
  have c5 := B2.set (.slice none 0 0)
  clear hw B1 B2
  go_wp2_with fail
  exact bodyPost_ret (v := .tuple #[.agg #[.slice none 0 0], .int .i64 (soundE l)]) (by simp [results, Try.results10, go_sem, c5]) rfl ⟨rfl, T.set0 (by omega) _⟩

set_option maxRecDepth 100000 in
set_option maxHeartbeats 1000000 in
theorem turn10_arg (w : World) (v : Value) (l : List Mb) (h : Ms w v l) (k : Int) (hE : soundE l = 0) (hk : k < 0 ∨ 65536 < k) : Calls Try.prog 10 #[.agg #[v], .int .i64 k] w fun e w' => e = .returned (.tuple #[.agg #[.slice none 0 0], .int .i64 2]) ∧ Turn no w w' := by
  have T0 : Turn no w ((w.alloc (.cells #[v] 24)).alloc (.cells #[.slice none 0 0] 24)) := ((Turn.refl no w).alloc _).alloc _
  have B1 := Bx.new (w.alloc (.cells #[v] 24)) (.slice none 0 0) 24
  have hw := total32 _ v l (h.turn_no T0)
  rw [hE] at hw
  rw [show (w.alloc (.cells #[v] 24)).heap.size = w.heap.size + 1 by simp] at B1
  clear h
  rcases hk with hk | hk
  · go_enter Try.func10, Try.ntmps10
    go_wp2_with fail
    refine hw.mono ?_
    rintro e w1 ⟨rfl, T1⟩
    have B2 := B1.turn_no T1
    have T := T0.then_no T1
    have c4 := B2.c
    have f4 := B2.f
    have c5 := B2.set (.slice none 0 0)
    clear hw B1 B2
    go_wp2_with fail
    exact bodyPost_ret (v := .tuple #[.agg #[.slice none 0 0], .int .i64 2]) (by simp [results, Try.results10, go_sem, c5]) rfl ⟨rfl, T.set0 (by omega) _⟩
  · have hk0 : ¬ k < 0 := by omega
    go_enter Try.func10, Try.ntmps10
    go_wp2_with fail
    refine hw.mono ?_
    rintro e w1 ⟨rfl, T1⟩
    have B2 := B1.turn_no T1
    have T := T0.then_no T1
    have c4 := B2.c
    have f4 := B2.f
    have c5 := B2.set (.slice none 0 0)
    clear hw B1 B2
    go_wp2_with fail
    exact bodyPost_ret (v := .tuple #[.agg #[.slice none 0 0], .int .i64 2]) (by simp [results, Try.results10, go_sem, c5]) rfl ⟨rfl, T.set0 (by omega) _⟩

set_option maxRecDepth 100000 in
set_option maxHeartbeats 1000000 in
theorem turn10_yes (w : World) (v : Value) (l : List Mb) (h : Ms w v l) (k : Nat) (hE : soundE l = 0) (hk : k ≤ 65536) : Calls Try.prog 10 #[.agg #[v], .int .i64 k] w fun e w' => ∃ u, e = .returned (.tuple #[.agg #[u], .int .i64 0]) ∧ Made w.heap.size w' u (turnsN (tot l) l k) ∧ Turn no w w' := by
  have T0 : Turn no w ((w.alloc (.cells #[v] 24)).alloc (.cells #[.slice none 0 0] 24)) := ((Turn.refl no w).alloc _).alloc _
  have B0 := (Bx.new w v 24).turn_no ((Turn.refl no _).alloc (.cells #[.slice none 0 0] 24))
  have B1 := Bx.new (w.alloc (.cells #[v] 24)) (.slice none 0 0) 24
  have hw := total32 _ v l (h.turn_no T0)
  rw [hE, soundT_ok l hE] at hw
  obtain ⟨hn0, hn64, _, _⟩ := weigh_ok l (sound_ok l hE).1
  have hcl := fun W (T : Turn no w W) => clone33 W v l (h.turn_no T) (by omega) hn64
  rw [show (w.alloc (.cells #[v] 24)).heap.size = w.heap.size + 1 by simp] at B1
  have hin := fun i => turns_in (sound_in l hE) i
  have hrs := fun i => (weigh_rising l (sound_ok l hE).1).keys (turns_keys (tot l) l i)
  have hln := fun i => turns_len (tot l) l i
  have htt := tot_le_top l (sound_ok l hE).1
  have hz0 : w.heap.size + 1 < ((w.alloc (.cells #[v] 24)).alloc (.cells #[.slice none 0 0] 24)).heap.size := by simp
  clear h hE
  have hkb : (k : Int) ≤ 65536 := by omega
  have hk0 : ¬ (k : Int) < 0 := by omega
  have hk1 : ¬ (65536 : Int) < (k : Int) := by omega
  obtain ⟨n, hn⟩ : ∃ n, Hid (l.length = n) := ⟨_, rfl⟩
  have hn' : l.length = n := hn.out
  rw [hn'] at hcl hn0 hn64
  obtain ⟨t, ht⟩ : ∃ t, Hid (tot l = t) := ⟨_, rfl⟩
  have ht' : tot l = t := ht.out
  rw [ht'] at hw hin hrs hln htt ⊢
  have hln : ∀ i, (turnsN t l i).length = n := fun i => (hln i).trans hn'
  clear ht' hn'
  go_enter Try.func10, Try.ntmps10
  go_wp2_with fail
  refine hw.mono ?_
  rintro e w1 ⟨rfl, T1⟩
  have B2 := B1.turn_no T1
  have B02 := B0.turn_no T1
  have T := T0.then_no T1
  have hcl := hcl w1 T
  have c3 := B02.c
  have hz1 := T1.size
  clear hw B1 B0
  go_wp2_with fail
  refine hcl.mono ?_
  rintro e w2 ⟨g, cap, rfl, R, hg, T2⟩
  have B3 := B2.turn_no T2
  have T3 := T.then_no T2
  have hgw : w.heap.size + 1 < g := by omega
  clear hcl B2 B02 T1 T0 hg c3 hz1 hz0 T
  go_wp2_with fail
  go_loopw [29] (fun c wr => ∃ i : Nat, i ≤ k ∧ c = .int .i64 i ∧ Rw wr g cap (turnsN t l i) ∧ Turn (fun b => b = g) w2 wr) (fun c _ => k - (intOf c).toNat)
  case atStart => exact ⟨0, by omega, rfl, R, Turn.refl _ _⟩
  case round =>
    clear R
    obtain ⟨i, hi, rfl, R, TR⟩ := hrel
    by_cases hlt : i < k
    · have hlt' : (i : Int) < (k : Int) := by omega
      have hct := turn34 wr g cap t _ R (hin i) htt (by rw [hln]; omega) (hrs i)
      rw [hln] at hct
      clear hin hrs
      go_wp2_with fail
      refine hct.mono ?_
      rintro e w4 ⟨rfl, R4, T4⟩
      have TR4 := TR.trans T4 (fun _ _ q => q)
      clear hct R
      go_wp2_with fail
      go_roundw
      case rel => exact ⟨i + 1, by omega, by go_num, R4, TR4⟩
      case measure => simp [intOf]; omega
    · have hkn : i = k := by omega
      subst hkn
      have hlt' : ¬ (i : Int) < (i : Int) := by omega
      have B4 := B3.turn TR (fun q => by omega)
      have c4 := B4.c
      have f4 := B4.f
      have c5 := B4.set (.slice (some ⟨g, 0, none⟩) n cap)
      have Tw : Turn no w wr := (T3.of_no.trans TR (fun _ _ q => q)).mono (fun b hb q => by omega)
      have R3 := R.turn ((Turn.refl (fun b => b = w.heap.size + 1) wr).setCell (p := ⟨w.heap.size + 1, 0, none⟩) (fun _ => rfl) (.slice (some ⟨g, 0, none⟩) n cap)) (fun q => by omega)
      have MD : Made w.heap.size (wr.setCell ⟨w.heap.size + 1, 0, none⟩ (.slice (some ⟨g, 0, none⟩) n cap)) (.slice (some ⟨g, 0, none⟩) n cap) (turnsN t l i) := ⟨g, cap, by rw [hln], R3, by omega⟩
      have T5 := Tw.set0 (g := w.heap.size + 1) (by omega) (.slice (some ⟨g, 0, none⟩) n cap)
      clear R R3 B3 B4 hin hrs hln Tw TR
      go_wp2_with fail
      exact bodyPost_ret (v := .tuple #[.agg #[.slice (some ⟨g, 0, none⟩) n cap], .int .i64 0]) (by simp [results, Try.results10, go_sem, c5]) rfl ⟨_, rfl, MD, T5⟩
end Go.Proofs.Ytcmoocoklhjkfaa
