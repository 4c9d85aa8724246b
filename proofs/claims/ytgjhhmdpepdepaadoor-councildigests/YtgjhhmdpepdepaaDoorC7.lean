/- roomy, kept, Clone. -/
import Derived.Test.YtgjhhmdpepdepaaDoorC6
namespace Go.Proofs.YtgjhhmdpepdepaaDoor
open Go.RowKit
set_option linter.unusedVariables false

def cmark : List Mb := [⟨777, 0, 0⟩, ⟨778, 0, 0⟩]
theorem cmark_ok : ∀ m ∈ cmark, m.ok := by
  intro m hm
  simp [cmark] at hm
  rcases hm with rfl | rfl <;> simp [Mb.ok]
theorem src_cmark (w : World) : Src Tryd.prog 3 22 (.slice (some ⟨w.heap.size, 0, none⟩) 2 2) 2 (flat cmark) (w.alloc (.cells #[.int .u64 777, .int .u64 0, .int .i64 0, .int .u64 778, .int .u64 0, .int .i64 0] 37)) := by
  refine Src.ofSlice _ Tryd.underlying22 _ _ _ _ (flat_len cmark) (fun j u hu => ?_) (flat_one cmark)
  rw [Addr.add_lit, cell_of_row _ w.heap.size (0 + j) _ 37 (0, 0) (heap_alloc_new w _)]
  rw [Nat.zero_add]
  simpa [flat, cmark, mbC] using hu

set_option maxRecDepth 100000 in
set_option maxHeartbeats 1000000 in
theorem clone33 (w : World) (v : Value) (l : List Mb) (h : Ms w v l) (h0 : 0 < l.length) (hb : l.length ≤ 64) : Calls Tryd.prog 17 #[v] w fun e w' =>
    ∃ g cap, e = .returned (.slice (some ⟨g, 0, none⟩) l.length cap) ∧ Rw w' g cap l ∧ w.heap.size ≤ g ∧ Turn no w w' := by
  obtain ⟨ad, cp, rfl, h⟩ := h
  have hok := h.ok
  have hs := h.src
  have hS := fun W (T : Turn no w W) => (h.turn_no T).src
  obtain ⟨b, off, rfl⟩ : ∃ b off, ad = some ⟨b, off, none⟩ := by
    obtain ⟨b, off, e, _⟩ := h.cells 0 l[0] (List.getElem?_eq_getElem h0)
    exact ⟨b, off, e⟩
  clear h
  obtain ⟨n, hn⟩ : ∃ n, Hid (l.length = n) := ⟨_, rfl⟩
  have hn' : l.length = n := hn.out
  rw [hn'] at hs hS hb h0 ⊢
  clear hn'
  have hnil := fun W => Lib.run_eql_slice_nil (P := Tryd.prog) W 22 37 (some ⟨b, off, none⟩) n cp 0 0 Tryd.underlying22
  go_enter Tryd.func17, Tryd.ntmps17
  have OE : OwnN (w.alloc (.cells #[] 37)) 37 3 (.slice (some ⟨w.heap.size, 0, none⟩) 0 0) 0 [] := ⟨rfl, .inr ⟨w.heap.size, 0, #[], rfl, Nat.zero_le _, heap_alloc_new w _, Nat.le_refl _, by simp [maxLen], rfl, rfl⟩⟩
  have TA : Turn no w (w.alloc (.cells #[] 37)) := (Turn.refl no w).alloc _
  have hs1 : Src Tryd.prog 3 22 (.slice (some ⟨b, off, none⟩) n cp) n (flat l) (w.alloc (.cells #[] 37)) := hS _ TA
  clear hs hS
  go_wp2_with (at_builtin; refine wpList_append_srcN rfl (.tmp 5) (.tmp 6) rfl Tryd.underlying22 info44 rfl (by decide) (.slice (some ⟨w.heap.size, 0, none⟩) 0 0) 0 [] rfl OE (.slice (some ⟨b, off, none⟩) n cp) n (flat l) rfl hs1 ?_ ?_ ?_)
  · omega
  · simp only [maxLen]; omega
  intro v1 w1 O1 G1
  obtain ⟨g, cap, e3, R⟩ := O1.rw hn.out.symm (by omega) hok
  have f1 : w.heap.size ≤ g := G1.fresh (B := w.heap.size) (fun g q => by cases q; exact Nat.le_refl _) (by simp) g (by rw [e3]; rfl)
  have T1 : Turn no w w1 := (TA.of_no.trans G1.turn (fun _ _ q => q)).mono (fun k hk q => by cases q; exact absurd hk (Nat.lt_irrefl _))
  subst e3
  clear O1 G1 OE hs1 TA
  go_wp2_with fail
  go_ret
  exact ⟨g, cap, rfl, R, f1, T1⟩
end Go.Proofs.YtgjhhmdpepdepaaDoor

