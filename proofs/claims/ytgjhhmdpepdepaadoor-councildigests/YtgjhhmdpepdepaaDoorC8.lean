/- New of the program and of the document. -/
import Derived.Test.YtgjhhmdpepdepaaDoorC7
namespace Go.Proofs.YtgjhhmdpepdepaaDoor
open Go.RowKit
set_option linter.unusedVariables false

/-- The list with all priorities 0. -/
def zeroed (l : List Mb) : List Mb := l.map fun m => { m with pr := 0 }
/-- Its first k. -/
def zeroedTo (l : List Mb) (k : Nat) : List Mb := zeroed (l.take k) ++ l.drop k
theorem zeroed_len (l : List Mb) : (zeroed l).length = l.length := by simp [zeroed]
theorem zeroedTo_len (l : List Mb) (k : Nat) : (zeroedTo l k).length = l.length := by simp [zeroedTo, zeroed]; omega
theorem zeroedTo_at (l : List Mb) (k : Nat) (m : Mb) (h : l[k]? = some m) : (zeroedTo l k)[k]? = some m := by
  have hk := (List.getElem?_eq_some_iff.1 h).1
  unfold zeroedTo zeroed
  rw [List.getElem?_append_right (by simp; omega)]
  simp [show min k l.length = k by omega, h]
theorem zeroedTo_succ (l : List Mb) (k : Nat) (m : Mb) (h : l[k]? = some m) : (zeroedTo l k).set k { m with pr := 0 } = zeroedTo l (k + 1) := by
  have hk := (List.getElem?_eq_some_iff.1 h).1
  unfold zeroedTo zeroed
  rw [List.set_append_right _ _ (by simp; omega), drop_at l k m h, List.take_add_one, h]
  simp [show k - min k l.length = 0 by omega]
theorem zeroedTo_all (l : List Mb) : zeroedTo l l.length = zeroed l := by simp [zeroedTo]
theorem zeroed_scan (l : List Mb) : ∀ h, scan h (zeroed l) = scan h l := by
  induction l with
  | nil => intro h; rfl
  | cons m r ih => intro h; simp only [zeroed, List.map_cons, scan]; rw [show (r.map fun m => ({ m with pr := 0 } : Mb)) = zeroed r from rfl, ih]
theorem zeroed_tot (l : List Mb) : tot (zeroed l) = tot l := by
  induction l with
  | nil => rfl
  | cons m r ih => simp only [zeroed, List.map_cons, tot]; rw [show (r.map fun m => ({ m with pr := 0 } : Mb)) = zeroed r from rfl, ih]
theorem zeroed_weigh (l : List Mb) : weighE (zeroed l) = weighE l := by
  unfold weighE
  rw [zeroed_len, zeroed_scan, zeroed_tot]
theorem zeroed_sound (l : List Mb) : soundE (zeroed l) = weighE l := by
  by_cases h : weighE l = 0
  · rw [h]
    exact sound_end _ (by rw [zeroed_weigh]; exact h) (fun m hm => by
      obtain ⟨x, _, rfl⟩ := List.mem_map.1 hm
      simp [wideB]
      omega)
  · rw [sound_weigh _ (by rw [zeroed_weigh]; exact h), zeroed_weigh]

/-- What New answers: a council in new memory, or none. -/
def Made (old : Nat) (w : World) (v : Value) (l : List Mb) : Prop := ∃ g cap, v = .slice (some ⟨g, 0, none⟩) l.length cap ∧ Rw w g cap l ∧ old ≤ g
theorem Made.ms {old : Nat} {w : World} {v : Value} {l : List Mb} (h : Made old w v l) : Ms w v l := by
  obtain ⟨g, cap, e, R, _⟩ := h
  exact ⟨_, cap, e, R.at⟩

set_option maxRecDepth 100000 in
set_option maxHeartbeats 1000000 in
theorem new15_no (w : World) (v : Value) (l : List Mb) (h : Ms w v l) (hE : weighE l ≠ 0) : Calls Tryd.prog 7 #[v] w fun e w' => e = .returned (.tuple #[.agg #[.slice none 0 0], .int .i64 (weighE l)]) ∧ Turn no w w' := by
  have T0 : Turn no w (w.alloc (.cells #[.slice none 0 0] 24)) := (Turn.refl no w).alloc _
  have hw := weigh36 _ v l (h.turn_no T0)
  have hne : (weighE l == 0) = false := by simp; exact hE
  have cb := cell_new1 w (.slice none 0 0) 24
  have fb : (w.alloc (.cells #[.slice none 0 0] 24)).frozen? ⟨w.heap.size, 0, none⟩ = false := frozen_of_row _ _ _ _ _ (heap_alloc_new w _)
  have hlt : w.heap.size < (w.alloc (.cells #[.slice none 0 0] 24)).heap.size := by simp
  clear h
  go_enter Tryd.func7, Tryd.ntmps7
  go_wp2_with fail
  refine hw.mono ?_
  rintro e w1 ⟨rfl, T1⟩
  have cb1 := T1.keep cb (fun q => q)
  have fb1 : w1.frozen? ⟨w.heap.size, 0, none⟩ = false := (T1.frozen hlt (fun q => q)).trans fb
  have T := T0.then_no T1
  have c2 := World.cell?_setCell_same w1 _ (.slice none 0 0) cb1
  clear hw cb fb hlt
  go_wp2_with fail
  exact bodyPost_ret (v := .tuple #[.agg #[.slice none 0 0], .int .i64 (weighE l)]) (by simp [results, Tryd.results7, go_sem, c2]) rfl ⟨rfl, T.setCell (fun q => absurd q (Nat.lt_irrefl _)) _⟩

set_option maxRecDepth 100000 in
set_option maxHeartbeats 1000000 in
theorem new15_yes (w : World) (v : Value) (l : List Mb) (h : Ms w v l) (hE : weighE l = 0) : Calls Tryd.prog 7 #[v] w fun e w' => ∃ u, e = .returned (.tuple #[.agg #[u], .int .i64 0]) ∧ Made w.heap.size w' u (zeroed l) ∧ Turn no w w' := by
  have T0 : Turn no w (w.alloc (.cells #[.slice none 0 0] 24)) := (Turn.refl no w).alloc _
  have hw := weigh36 _ v l (h.turn_no T0)
  obtain ⟨hn0, hn64, _, _⟩ := weigh_ok l hE
  rw [hE] at hw
  have hcl := fun W (T : Turn no w W) => clone33 W v l (h.turn_no T) (by omega) hn64
  have cb := cell_new1 w (.slice none 0 0) 24
  have fb : (w.alloc (.cells #[.slice none 0 0] 24)).frozen? ⟨w.heap.size, 0, none⟩ = false := frozen_of_row _ _ _ _ _ (heap_alloc_new w _)
  have hlt : w.heap.size < (w.alloc (.cells #[.slice none 0 0] 24)).heap.size := by simp
  clear h
  obtain ⟨n, hn⟩ : ∃ n, Hid (l.length = n) := ⟨_, rfl⟩
  have hn' : l.length = n := hn.out
  rw [hn'] at hn0 hn64 hcl
  clear hn'
  go_enter Tryd.func7, Tryd.ntmps7
  go_wp2_with fail
  refine hw.mono ?_
  rintro e w1 ⟨rfl, T1⟩
  have cb1 := T1.keep cb (fun q => q)
  have fb1 : w1.frozen? ⟨w.heap.size, 0, none⟩ = false := (T1.frozen hlt (fun q => q)).trans fb
  have T := T0.then_no T1
  have hcl := hcl w1 T
  have hlt1 : w.heap.size < w1.heap.size := by have := T1.size; omega
  clear hw cb fb hlt
  go_wp2_with fail
  refine hcl.mono ?_
  rintro e w2 ⟨g, cap, rfl, R, hg, T2⟩
  have cb2 := T2.keep cb1 (fun q => q)
  have fb2 : w2.frozen? ⟨w.heap.size, 0, none⟩ = false := (T2.frozen hlt1 (fun q => q)).trans fb1
  have T := T.then_no T2
  have hgw : w.heap.size < g := by omega
  clear hcl cb1 fb1 T1 T0 hg
  go_wp2_with fail
  go_loopw [21] (fun c wr => ∃ k : Nat, k ≤ n ∧ c = .int .i64 k ∧ Rw wr g cap (zeroedTo l k) ∧ Turn (fun b => b = g) w2 wr) (fun c _ => n - (intOf c).toNat)
  case atStart => exact ⟨0, by omega, rfl, by simpa [zeroedTo, zeroed] using R, Turn.refl _ _⟩
  case round =>
    clear R
    obtain ⟨k, hk, rfl, R, TR⟩ := hrel
    by_cases hlt : k < n
    · obtain ⟨m, hm⟩ : ∃ m, l[k]? = some m := ⟨l[k]'(by rw [hn.out]; exact hlt), List.getElem?_eq_getElem _⟩
      have hlt' : (k : Int) < (n : Int) := by omega
      have R2 := R.set k m (zeroedTo_at l k m hm) 0 (by decide)
      rw [zeroedTo_succ l k m hm] at R2
      obtain ⟨c0, c1, c2⟩ := R.cells k m (zeroedTo_at l k m hm)
      have f2 := R.frozen (k * 3 + 2)
      have TR2 := TR.setCell (p := ⟨g, k * 3 + 2, none⟩) (fun _ => rfl) (.int .i64 0)
      clear hm R
      go_wp2_with fail
      go_roundw
      case rel => exact ⟨k + 1, by omega, by go_num, R2, TR2⟩
      case measure => simp [intOf]; omega
    · have hkn : k = n := by omega
      subst hkn
      have hlt' : ¬ (k : Int) < (k : Int) := by omega
      have cb3 := TR.keep cb2 (fun q => by have : w.heap.size = g := q; omega)
      have fb3 : wr.frozen? ⟨w.heap.size, 0, none⟩ = false := (TR.frozen (by have := T2.size; show w.heap.size < _; omega) (fun q => by simp at q; omega)).trans fb2
      have e : zeroedTo l k = zeroed l := by rw [← hn.out]; exact zeroedTo_all l
      rw [e] at R
      have hl : (zeroed l).length = k := by rw [zeroed_len]; exact hn.out
      have Tw : Turn no w wr := (T.of_no.trans TR (fun _ _ q => q)).mono (fun b hb q => by omega)
      have c2 := World.cell?_setCell_same wr _ (.slice (some ⟨g, 0, none⟩) k cap) cb3
      have TS := (Turn.refl (fun b => b = w.heap.size) wr).setCell (p := ⟨w.heap.size, 0, none⟩) (fun _ => rfl) (.slice (some ⟨g, 0, none⟩) k cap)
      have R3 := R.turn TS (fun q => by omega)
      have T4 := Tw.setCell (p := ⟨w.heap.size, 0, none⟩) (fun q => absurd q (Nat.lt_irrefl _)) (.slice (some ⟨g, 0, none⟩) k cap)
      have MD : Made w.heap.size (wr.setCell ⟨w.heap.size, 0, none⟩ (.slice (some ⟨g, 0, none⟩) k cap)) (.slice (some ⟨g, 0, none⟩) k cap) (zeroed l) := ⟨g, cap, by rw [hl], R3, by omega⟩
      clear R R3 e hl Tw TS
      go_wp2_with fail
      exact bodyPost_ret (v := .tuple #[.agg #[.slice (some ⟨g, 0, none⟩) k cap], .int .i64 0]) (by simp [results, Tryd.results7, go_sem, c2]) rfl ⟨_, rfl, MD, T4⟩
end Go.Proofs.YtgjhhmdpepdepaaDoor

