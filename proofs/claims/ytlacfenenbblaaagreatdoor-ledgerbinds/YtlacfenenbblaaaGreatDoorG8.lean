/- Find of the program and of the document. -/
import Derived.Test.YtlacfenenbblaaaGreatDoorG6
namespace Go.Proofs.YtlacfenenbblaaaGreatDoor
open Go.RowKit
set_option linter.unusedVariables false

set_option maxRecDepth 100000 in
set_option maxHeartbeats 4000000 in
theorem find15 (w : World) (va vr : Value) (l : List Ac) (ha : As w va l) (hr : ∃ ra rn rc, vr = .slice ra rn rc) (b s : Int) (x : Nat) : Calls Tryz.prog 19 #[.agg #[va, vr, .int .u64 b, .int .u64 s], .int .u64 x] w fun e w' => ∃ m k, e = .returned (.tuple #[.agg (acA5 m), .int .i64 k]) ∧ FindP l x m k ∧ Turn no w w' := by
  have HA := shut ha
  obtain ⟨a, cap, rfl, h⟩ := ha
  obtain ⟨ra, rn, rc, rfl⟩ := hr
  clear h
  obtain ⟨w0, hw0⟩ : ∃ w0, (w.alloc (.cells #[.slice a l.length cap, .slice ra rn rc, .int .u64 b, .int .u64 s] 26)).alloc (.cells #[.int .u64 0, .int .u64 0, .int .u64 0, .int .u64 0, .bool false] 38) = w0 := ⟨_, rfl⟩
  have T0 : Turn no w w0 := by rw [← hw0]; exact ((Turn.refl no w).alloc _).alloc _
  have RB : Row w0 w.heap.size #[.slice a l.length cap, .slice ra rn rc, .int .u64 b, .int .u64 s] 26 := by rw [← hw0]; exact (Row.new w _ 26).alloc _
  have RZ : Row w0 (w.heap.size + 1) (acA5 ac0) 38 := by rw [← hw0]; exact Row.newAt _ _ _ _ (by simp)
  have hi := place32 w0 _ (.slice ra rn rc) l (HA.out.turn_no T0) b s x
  have HK : Shut (∀ W, Turn no w0 W → (W.cell? ⟨w.heap.size, 0, none⟩ = some (.slice a l.length cap) ∧ W.cell? ⟨w.heap.size, 1, none⟩ = some (.slice ra rn rc) ∧ W.cell? ⟨w.heap.size, 2, none⟩ = some (.int .u64 b) ∧ W.cell? ⟨w.heap.size, 3, none⟩ = some (.int .u64 s)) ∧ Row W (w.heap.size + 1) (acA5 ac0) 38 ∧ Turn no w W) := fun W t =>
    ⟨⟨t.keep (RB.cell 0 _ rfl) (fun q => q), t.keep (RB.cell 1 _ rfl) (fun q => q), t.keep (RB.cell 2 _ rfl) (fun q => q), t.keep (RB.cell 3 _ rfl) (fun q => q)⟩, RZ.turn t (fun q => q), T0.then_no t⟩
  have HLE : Shut (l.length ≤ 9223372036854775807) := by
    obtain ⟨_, _, e, h⟩ := HA.out
    have := h.le; have := h.cap; simp only [maxLen] at this
    show _ ≤ _
    omega
  obtain ⟨⟨g0, g1, g2, g3⟩, _, _⟩ := HK.out w0 (Turn.refl no w0)
  clear RB RZ T0
  obtain ⟨n, hn⟩ : ∃ n, Hid (l.length = n) := ⟨_, rfl⟩
  have hn' : l.length = n := hn.out
  rw [hn'] at hi HK hw0 g0 HA HLE ⊢
  clear hn'
  go_enter Tryz.func19, Tryz.ntmps19
  go_upto_region 1 with fail
  try rw [hw0]
  go_upto_region 2 with (go_at_call 42; refine hi.mono ?_; clear hi; rintro e w1 ⟨k, rfl, hk, t1⟩)
  obtain ⟨⟨y0, _, _, _⟩, hZ, hT⟩ := HK.out w1 t1
  have HT := shut hT
  have HZ := shut hZ
  have HAP := shut hk
  clear hT hZ hk g0 g1 g2 g3 hw0 HK
  have HCA : Shut ((k = -1 ∧ FindP l x ac0 85) ∨ ∃ (j : Nat) (m : Ac), k = j ∧ l[j]? = some m ∧ FindP l x m 0) := by
    rcases HAP.out with ⟨q, e⟩ | ⟨x0, ⟨e, hno⟩ | ⟨j, m, e, hj, hm, hf⟩⟩
    · exact Or.inl ⟨e, Or.inl ⟨rfl, rfl, Or.inl q⟩⟩
    · exact Or.inl ⟨e, Or.inl ⟨rfl, rfl, Or.inr hno⟩⟩
    · exact Or.inr ⟨j, m, e, hj, Or.inr ⟨rfl, x0, j, hj, hm, hf⟩⟩
  clear HAP
  rcases HCA.out with ⟨rfl, hF⟩ | ⟨j, m, rfl, hj, hF⟩
  · have HF := shut hF
    have hz := HZ.out
    have s1 := size39 ac0
    have s2 := one39 ac0
    clear hF
    go_wp2_with (refine wpList_store_anyN rfl rfl 38 (.tmp 4) (.tmp 12) rfl (w.heap.size + 1) (acA5 ac0) rfl rfl 38 _ hz s1 rfl s2 ?_; intro w9 R9 T9)
    exact ⟨rfl, _, results_cell_row_tmp (g := w.heap.size + 1) (cs := acA5 ac0) (t := 38) rfl _ _ _ _ rfl R9 Tryz.underlying38 rfl (size39 ac0), _, _, rfl, HF.out, HT.out.trans T9 (fun i hi q => by omega)⟩
  · have HF := shut hF
    obtain ⟨bb, off, e, c0, c1, c2, c3, c4⟩ := (HA.out.turn_no HT.out).cells j m hj
    subst e
    have hz := HZ.out
    have s1 := size39 m
    have s2 := one39 m
    have hjn : (j : Int) < (n : Int) := by have := (List.getElem?_eq_some_iff.1 hj).1; have := hn.out; omega
    have hj0 : ¬ (j : Int) < 0 := by omega
    clear hF hj
    go_wp2_with (refine wpList_store_anyN rfl rfl 38 (.tmp 4) (.tmp 17) rfl (w.heap.size + 1) (acA5 m) rfl rfl 38 _ hz s1 rfl s2 ?_; intro w9 R9 T9)
    exact ⟨rfl, _, results_cell_row_tmp (g := w.heap.size + 1) (cs := acA5 m) (t := 38) rfl _ _ _ _ rfl R9 Tryz.underlying38 rfl (size39 m), _, _, rfl, HF.out, HT.out.trans T9 (fun i hi q => by omega)⟩
end Go.Proofs.YtlacfenenbblaaaGreatDoor


