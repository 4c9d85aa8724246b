/- Find of the program and of the document. -/
import Derived.Test.YtdbfbdhnjbmmjaaG6
namespace Go.Proofs.Ytdbfbdhnjbmmjaa
open Go.RowKit
set_option linter.unusedVariables false

set_option maxRecDepth 100000 in
set_option maxHeartbeats 4000000 in
theorem find13g (w : World) (va vr : Value) (l : List Ac) (ha : As w va l) (b s : Int) (x : Nat) : Calls Try.prog 13 #[.agg #[va, vr, .int .u64 b, .int .u64 s], .int .u64 x] w fun e w' => ∃ m k, e = .returned (.tuple #[.agg (acA5 m), .int .i64 k]) ∧ FindP l x m k ∧ Turn no w w' := by
  have HA := shut ha
  obtain ⟨a, cap, rfl, h⟩ := ha
  clear h
  obtain ⟨w0, hw0⟩ : ∃ w0, ((w.alloc (.cells #[.slice a l.length cap, vr, .int .u64 b, .int .u64 s] 29)).alloc (.cells #[.int .u64 x] 35)).alloc (.cells #[.int .u64 0, .int .u64 0, .int .u64 0, .int .u64 0, .bool false] 39) = w0 := ⟨_, rfl⟩
  have T0 : Turn no w w0 := by rw [← hw0]; exact (((Turn.refl no w).alloc _).alloc _).alloc _
  have RB : Row w0 w.heap.size #[.slice a l.length cap, vr, .int .u64 b, .int .u64 s] 29 := by rw [← hw0]; exact ((Row.new w _ 29).alloc _).alloc _
  have RX : Row w0 (w.heap.size + 1) #[.int .u64 x] 35 := by rw [← hw0]; exact (Row.newAt _ _ _ _ (by simp)).alloc _
  have RZ : Row w0 (w.heap.size + 1 + 1) (acA5 ac0) 39 := by rw [← hw0]; exact Row.newAt _ _ _ _ (by simp)
  have hi := index29g w0 _ l (HA.out.turn_no T0) ⟨w.heap.size + 1, 0, none⟩ x (RX.cell 0 _ rfl)
  have HK : Shut (∀ W, Turn no w0 W → W.cell? ⟨w.heap.size, 0, none⟩ = some (.slice a l.length cap) ∧ W.cell? ⟨w.heap.size + 1, 0, none⟩ = some (.int .u64 x) ∧ Row W (w.heap.size + 1 + 1) (acA5 ac0) 39 ∧ Turn no w W) := fun W t =>
    ⟨t.keep (RB.cell 0 _ rfl) (fun q => q), t.keep (RX.cell 0 _ rfl) (fun q => q), RZ.turn t (fun q => q), T0.then_no t⟩
  have hmf : ∀ (fn : Fn) (first cap : Array Value) (w : World), (Instr.makeFunc fn first cap).run Try.prog w = .ok (.func fn first cap) w := fun _ _ _ _ => rfl
  have HLE : Shut (l.length ≤ 9223372036854775807) := by
    obtain ⟨_, _, e, h⟩ := HA.out
    have := h.le; have := h.cap; simp only [maxLen] at this
    show _ ≤ _
    omega
  obtain ⟨g0, g1, _, _⟩ := HK.out w0 (Turn.refl no w0)
  clear RB RX RZ T0
  obtain ⟨n, hn⟩ : ∃ n, Hid (l.length = n) := ⟨_, rfl⟩
  have hn' : l.length = n := hn.out
  rw [hn'] at hi HK hw0 g0 HA HLE ⊢
  clear hn'
  go_enter Try.func13, Try.ntmps13
  go_wp2_with fail
  refine hi.mono ?_
  clear hi
  rintro e w1 ⟨k, rfl, hk, t1⟩
  obtain ⟨y0, y1, hZ, hT⟩ := HK.out w1 t1
  have HT := shut hT
  have HZ := shut hZ
  have HAP := shut hk
  clear hT hZ hk g0 g1 hmf hw0 HK t1
  by_cases x0 : x = 0
  · have x0' : ((x : Int) == 0) = true := by simp; omega
    have HF : Shut (FindP l x ac0 85) := Or.inl ⟨rfl, rfl, Or.inl x0⟩
    have hz := HZ.out
    have s1 := size39 ac0
    have s2 := one39 ac0
    clear x0
    by_cases k0 : k < 0
    · go_wp2_with (refine wpList_store_anyN rfl rfl 39 (.tmp 4) (.tmp 17) rfl (w.heap.size + 1 + 1) (acA5 ac0) rfl rfl 39 _ hz s1 rfl s2 ?_; intro w9 R9 T9)
      exact ⟨rfl, _, results_cell_row_tmp (g := w.heap.size + 1 + 1) (cs := acA5 ac0) (t := 39) rfl _ _ _ _ rfl R9 Try.underlying39 rfl (size39 ac0), _, _, rfl, HF.out, HT.out.trans T9 (fun i hi q => by omega)⟩
    · go_wp2_with (refine wpList_store_anyN rfl rfl 39 (.tmp 4) (.tmp 17) rfl (w.heap.size + 1 + 1) (acA5 ac0) rfl rfl 39 _ hz s1 rfl s2 ?_; intro w9 R9 T9)
      exact ⟨rfl, _, results_cell_row_tmp (g := w.heap.size + 1 + 1) (cs := acA5 ac0) (t := 39) rfl _ _ _ _ rfl R9 Try.underlying39 rfl (size39 ac0), _, _, rfl, HF.out, HT.out.trans T9 (fun i hi q => by omega)⟩
  · have x0' : ((x : Int) == 0) = false := by simp; omega
    rcases HAP.out with ⟨rfl, hno⟩ | ⟨j, m, rfl, hj, hm, hf⟩
    · have HF : Shut (FindP l x ac0 85) := Or.inl ⟨rfl, rfl, Or.inr hno⟩
      have hz := HZ.out
      have s1 := size39 ac0
      have s2 := one39 ac0
      clear x0 hno
      go_wp2_with (refine wpList_store_anyN rfl rfl 39 (.tmp 4) (.tmp 17) rfl (w.heap.size + 1 + 1) (acA5 ac0) rfl rfl 39 _ hz s1 rfl s2 ?_; intro w9 R9 T9)
      exact ⟨rfl, _, results_cell_row_tmp (g := w.heap.size + 1 + 1) (cs := acA5 ac0) (t := 39) rfl _ _ _ _ rfl R9 Try.underlying39 rfl (size39 ac0), _, _, rfl, HF.out, HT.out.trans T9 (fun i hi q => by omega)⟩
    · have HF : Shut (FindP l x m 0) := Or.inr ⟨rfl, x0, j, hj, hm, hf⟩
      obtain ⟨bb, off, e, c0, c1, c2, c3, c4⟩ := (HA.out.turn_no HT.out).cells j m hj
      subst e
      have hz := HZ.out
      have s1 := size39 m
      have s2 := one39 m
      have hjn : (j : Int) < (n : Int) := by have := (List.getElem?_eq_some_iff.1 hj).1; have := hn.out; omega
      have hj0 : ¬ (j : Int) < 0 := by omega
      clear x0 hf hm hj
      go_wp2_with (refine wpList_store_anyN rfl rfl 39 (.tmp 4) (.tmp 22) rfl (w.heap.size + 1 + 1) (acA5 m) rfl rfl 39 _ hz s1 rfl s2 ?_; intro w9 R9 T9)
      exact ⟨rfl, _, results_cell_row_tmp (g := w.heap.size + 1 + 1) (cs := acA5 m) (t := 39) rfl _ _ _ _ rfl R9 Try.underlying39 rfl (size39 m), _, _, rfl, HF.out, HT.out.trans T9 (fun i hi q => by omega)⟩
end Go.Proofs.Ytdbfbdhnjbmmjaa
