/- roomy, kept, Clone. -/
import Derived.Test.YtcmoocoklhjkfabC6
namespace Go.Proofs.Ytcmoocoklhjkfab
open Go.RowKit
set_option linter.unusedVariables false

def mark : List Mb := [⟨777, 0, 0⟩, ⟨778, 0, 0⟩]
theorem mark_ok : ∀ m ∈ mark, m.ok := by
  intro m hm
  simp [mark] at hm
  rcases hm with rfl | rfl <;> simp [Mb.ok]
theorem src_mark (w : World) : Src Try.prog 3 22 (.slice (some ⟨w.heap.size, 0, none⟩) 2 2) 2 (flat mark) (w.alloc (.cells #[.int .u64 777, .int .u64 0, .int .i64 0, .int .u64 778, .int .u64 0, .int .i64 0] 55)) := by
  refine Src.ofSlice _ Try.underlying22 _ _ _ _ (flat_len mark) (fun j u hu => ?_) (flat_one mark)
  rw [Addr.add_lit, cell_of_row _ w.heap.size (0 + j) _ 55 (0, 0) (heap_alloc_new w _)]
  rw [Nat.zero_add]
  simpa [flat, mark, mbC] using hu

set_option maxRecDepth 100000 in
set_option maxHeartbeats 1000000 in
theorem roomy14 (w : World) (v : Value) (l : List Mb) (h : Ms w v l) (hb : l.length * 24 ≤ 140737488351232) : Calls Try.prog 20 #[v] w fun e w' =>
    ∃ g cap, e = .returned (.slice (some ⟨g, 0, none⟩) (l.length + 2) cap) ∧ Rw w' g cap (l ++ mark) ∧ w.heap.size ≤ g ∧ Turn no w w' := by
  obtain ⟨ad, cp, rfl, h⟩ := h
  have hok := h.ok
  have hs := h.src
  clear h
  obtain ⟨n, hn⟩ : ∃ n, Hid (l.length = n) := ⟨_, rfl⟩
  have hn' : l.length = n := hn.out
  rw [hn'] at hs hb ⊢
  clear hn'
  go_enter Try.func20, Try.ntmps20
  go_wp2_with (at_builtin; refine wpList_append_srcN rfl (.const (.slice none 0 0)) (.tmp 4) rfl Try.underlying22 info44 rfl (by decide) (.slice none 0 0) 0 [] rfl (OwnN.nil _ _ _) (.slice ad n cp) n (flat l) rfl hs ?_ ?_ ?_)
  · omega
  · simp only [maxLen]; omega
  intro v1 w1 O1 G1
  have T1 : Turn no w w1 := G1.turn.mono (fun k hk q => by cases q)
  have f1 : ∀ g, v1.ownBlock = some g → w.heap.size ≤ g := G1.fresh (fun g q => by cases q) (Nat.le_refl _)
  have TA : Turn no w1 (w1.alloc (.cells #[.int .u64 777, .int .u64 0, .int .i64 0, .int .u64 778, .int .u64 0, .int .i64 0] 55)) := (Turn.refl no w1).alloc _
  have O2 := O1.turn_no TA
  have hs2 := src_mark w1
  obtain ⟨a1, c1, e1, _⟩ := O1.form
  subst e1
  clear O1 G1 hs
  go_wp2_with (at_builtin; refine wpList_append_srcN rfl (.tmp 6) (.tmp 9) rfl Try.underlying22 info44 rfl (by decide) (.slice a1 n c1) n (flat l) rfl O2 (.slice (some ⟨w1.heap.size, 0, none⟩) 2 2) 2 (flat mark) rfl hs2 ?_ ?_ ?_)
  · omega
  · simp only [maxLen]; omega
  intro v3 w3 O3 G3
  rw [← flat_append] at O3
  obtain ⟨g, cap, e3, R⟩ := O3.rw (by rw [← hn.out]; simp [mark]) (by omega) (fun m hm => (List.mem_append.1 hm).elim (hok m) (mark_ok m))
  have f3 : w.heap.size ≤ g := G3.fresh f1 (by have := T1.size; have := TA.size; omega) g (by rw [e3]; rfl)
  have T3 : Turn no w w3 := ((T1.then_no TA).of_no.trans G3.turn (fun _ _ q => q)).mono (fun k hk q => by have := f1 k q; omega)
  subst e3
  clear O2 O3 G3 hs2 TA f1
  go_wp2_with fail
  go_ret
  exact ⟨g, cap, rfl, R, f3, T3⟩

set_option maxRecDepth 100000 in
set_option maxHeartbeats 1000000 in
theorem kept17 (w : World) (u : Value) (l : List Mb) (g cap : Nat) (R : Rw w g cap (l ++ mark)) (h : Ms w u l) : Calls Try.prog 22 #[.slice (some ⟨g, 0, none⟩) (l.length + 2) cap, u] w fun e w' => e = .returned (.bool true) ∧ Turn no w w' := by
  have hle := R.le
  have hcap := R.most
  rw [List.length_append, show mark.length = 2 from rfl] at hle
  have M1 : Ms w (.slice (some ⟨g, 0, none⟩) l.length cap) l := ⟨_, cap, rfl, by omega, hcap, fun m hm => R.ok m (by simp [hm]), fun j m hm => R.at.cells j m (by rw [List.getElem?_append_left (List.getElem?_eq_some_iff.1 hm).1]; exact hm)⟩
  have hsm := same13 w _ u l M1 h
  have k7 := (R.cells l.length ⟨777, 0, 0⟩ (by rw [List.getElem?_append_right (by omega)]; simp [mark])).1
  have k8 := (R.cells (l.length + 1) ⟨778, 0, 0⟩ (by rw [List.getElem?_append_right (by omega)]; simp [mark])).1
  obtain ⟨ad, cp, rfl, h⟩ := h
  clear h M1 R
  obtain ⟨n, hn⟩ : ∃ n, Hid (l.length = n) := ⟨_, rfl⟩
  have hn' : l.length = n := hn.out
  rw [hn'] at hsm k7 k8 hle ⊢
  clear hn'
  simp only [maxLen] at hcap
  go_enter Try.func22, Try.ntmps22
  go_wp2_with fail
  refine hsm.mono ?_
  rintro e w1 ⟨rfl, T⟩
  have k7 := T.keep k7 (fun q => q)
  have k8 := T.keep k8 (fun q => q)
  clear hsm
  go_wp2_with fail
  go_ret
  exact ⟨rfl, T⟩

set_option maxRecDepth 100000 in
set_option maxHeartbeats 1000000 in
theorem clone33 (w : World) (v : Value) (l : List Mb) (h : Ms w v l) (h0 : 0 < l.length) (hb : l.length ≤ 64) : Calls Try.prog 32 #[v] w fun e w' =>
    ∃ g cap, e = .returned (.slice (some ⟨g, 0, none⟩) l.length cap) ∧ Rw w' g cap l ∧ w.heap.size ≤ g ∧ Turn no w w' := by
  obtain ⟨ad, cp, rfl, h⟩ := h
  have hok := h.ok
  have hs := h.src
  have hS := fun W (T : Turn no w W) => (h.turn_no T).src
  obtain ⟨b, off, rfl⟩ : ∃ b off, ad = some ⟨b, off, none⟩ := by
    obtain ⟨b, off, e, _⟩ := h.cells 0 l[0] (List.getElem?_eq_getElem h0)
    exact ⟨b, off, e⟩
  clear h
  obtain ⟨n, hn⟩ : ∃ n, Hid (l.length = n) := ⟨_, rfl⟩
  have hn' : l.length = n := hn.out
  rw [hn'] at hs hS hb h0 ⊢
  clear hn'
  have hnil := fun W => Lib.run_eql_slice_nil (P := Try.prog) W 22 55 (some ⟨b, off, none⟩) n cp 0 0 Try.underlying22
  go_enter Try.func32, Try.ntmps32
  have OE : OwnN (w.alloc (.cells #[] 55)) 55 3 (.slice (some ⟨w.heap.size, 0, none⟩) 0 0) 0 [] := ⟨rfl, .inr ⟨w.heap.size, 0, #[], rfl, Nat.zero_le _, heap_alloc_new w _, Nat.le_refl _, by simp [maxLen], rfl, rfl⟩⟩
  have TA : Turn no w (w.alloc (.cells #[] 55)) := (Turn.refl no w).alloc _
  have hs1 : Src Try.prog 3 22 (.slice (some ⟨b, off, none⟩) n cp) n (flat l) (w.alloc (.cells #[] 55)) := hS _ TA
  clear hs hS
  go_wp2_with (at_builtin; refine wpList_append_srcN rfl (.tmp 5) (.tmp 6) rfl Try.underlying22 info44 rfl (by decide) (.slice (some ⟨w.heap.size, 0, none⟩) 0 0) 0 [] rfl OE (.slice (some ⟨b, off, none⟩) n cp) n (flat l) rfl hs1 ?_ ?_ ?_)
  · omega
  · simp only [maxLen]; omega
  intro v1 w1 O1 G1
  obtain ⟨g, cap, e3, R⟩ := O1.rw hn.out.symm (by omega) hok
  have f1 : w.heap.size ≤ g := G1.fresh (B := w.heap.size) (fun g q => by cases q; exact Nat.le_refl _) (by simp) g (by rw [e3]; rfl)
  have T1 : Turn no w w1 := (TA.of_no.trans G1.turn (fun _ _ q => q)).mono (fun k hk q => by cases q; exact absurd hk (Nat.lt_irrefl _))
  subst e3
  clear O1 G1 OE hs1 TA
  go_wp2_with fail
  go_ret
  exact ⟨g, cap, rfl, R, f1, T1⟩
end Go.Proofs.Ytcmoocoklhjkfab
