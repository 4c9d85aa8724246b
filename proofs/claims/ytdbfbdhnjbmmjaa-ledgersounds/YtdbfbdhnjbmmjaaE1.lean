/- Find of two accounts; alive. -/
import Derived.Test.YtdbfbdhnjbmmjaaE0
namespace Go.Proofs.Ytdbfbdhnjbmmjaa
open Go.RowKit Go.Maps
set_option linter.unusedVariables false

def acA : Ac := ⟨1, 100, 0, 0, false⟩
def acB : Ac := ⟨2, 0, 50, 7, false⟩
theorem acA_ok : acA.ok := by unfold Ac.ok acA; simp
theorem acB_ok : acB.ok := by unfold Ac.ok acB; simp
theorem rivAB : rivL 10 [acA, acB] = [acB] := by simp [rivL, rivB, acA, acB]
def pAB : Array Value := #[.int .u64 10, .int .i64 2, .int .u64 0, .int .u64 0, .int .u64 0, .int .i64 0, .int .u64 0, .int .u64 0, .int .u64 0, .int .u64 0, .int .u64 0, .int .u64 0]
theorem seats_two (w : World) (a : Addr) (cap : Nat) (h : AsAt w (some a) cap [acA, acB]) (b s : Int) :
    Calls Try.prog 8 #[.agg #[.slice (some a) 2 cap, .slice none 0 0, .int .u64 b, .int .u64 s], .agg pAB] w fun e w' => ∃ g c, e = .returned (.slice (some ⟨g, 0, none⟩) 1 c) ∧ 1 ≤ c ∧ w'.cell? ⟨g, 0, none⟩ = some (.int .u64 2) ∧ w'.cell? ⟨g, 1, none⟩ = some (.int .u64 50) ∧ Turn no w w' := by
  refine (seats8 w _ (.slice none 0 0) [acA, acB] ⟨_, _, rfl, h⟩ (by decide) (fun x hx y hy e => ?_) b s pAB 10 2 rfl rfl).mono ?_
  · simp at hx hy
    rcases hx with rfl | rfl <;> rcases hy with rfl | rfl <;> first | rfl | (exact absurd e (by decide))
  · rintro e w' ⟨v', q, rfl, hq, _, O, t⟩
    rw [show max 10 1 = 10 from rfl, rivAB] at hq
    have e1 := List.perm_singleton.1 hq
    subst e1
    have e2 : ([acA, acB].filter (sitB ([acB].take (cnt 2 [acB].length)))) = [acB] := by kernel_rfl
    rw [e2] at O
    obtain ⟨a, c, rfl, _, _, hc, _⟩ := O.form
    obtain ⟨g, rfl, c0, c1, _⟩ := mem_cells O 0 acB rfl
    exact ⟨g, c, rfl, hc, c0, c1, t⟩

set_option maxRecDepth 100000 in
set_option maxHeartbeats 1000000 in
theorem mine30 (w : World) (x0 x1 x2 x3 : Int) (x4 : Bool) (p : Addr) (a : Int) (hp : w.cell? p = some (.int .u64 a)) : Calls Try.prog 30 #[.agg #[.int .u64 x0, .int .u64 x1, .int .u64 x2, .int .u64 x3, .bool x4], .pointer (some p)] w fun e w' => e = .returned (.bool (x0 == a)) ∧ Turn no w w' := by
  have T0 : Turn no w (w.alloc (.cells #[.int .u64 x0, .int .u64 x1, .int .u64 x2, .int .u64 x3, .bool x4] 39)) := (Turn.refl no w).alloc _
  have hp1 := T0.keep hp (fun q => q)
  have HT := shut T0
  clear T0
  go_enter Try.func30, Try.ntmps30
  go_wp2_with fail
  go_ret
  exact ⟨rfl, HT.out⟩
set_option maxRecDepth 100000 in
set_option maxHeartbeats 2000000 in
theorem index29 (w : World) (b off cap : Nat) (h : AsAt w (some ⟨b, off, none⟩) cap [acA, acB]) (p : Addr) (hp : w.cell? p = some (.int .u64 2)) : Calls Try.prog 29 #[.slice (some ⟨b, off, none⟩) 2 cap, .func (.func 30) #[] #[.pointer (some p)]] w fun e w' => e = .returned (.int .i64 1) ∧ Turn no w w' := by
  obtain ⟨b0, off0, ea, y0, y1, y2, y3, y4⟩ := h.cells 0 acA rfl
  obtain ⟨b1, off1, eb, z0, z1, z2, z3, z4⟩ := h.cells 1 acB rfl
  cases ea
  cases eb
  have HK : Shut (∀ W, Turn no w W → (W.cell? ⟨b, off, none⟩ = some (.int .u64 1) ∧ W.cell? ⟨b, off + 1, none⟩ = some (.int .u64 100) ∧ W.cell? ⟨b, off + 2, none⟩ = some (.int .u64 0) ∧ W.cell? ⟨b, off + 3, none⟩ = some (.int .u64 0) ∧ W.cell? ⟨b, off + 4, none⟩ = some (.bool false)) ∧
      (W.cell? ⟨b, off + 5, none⟩ = some (.int .u64 2) ∧ W.cell? ⟨b, off + 5 + 1, none⟩ = some (.int .u64 0) ∧ W.cell? ⟨b, off + 5 + 2, none⟩ = some (.int .u64 50) ∧ W.cell? ⟨b, off + 5 + 3, none⟩ = some (.int .u64 7) ∧ W.cell? ⟨b, off + 5 + 4, none⟩ = some (.bool false)) ∧ W.cell? p = some (.int .u64 2)) := fun W t =>
    ⟨⟨t.keep y0 (fun q => q), t.keep y1 (fun q => q), t.keep y2 (fun q => q), t.keep y3 (fun q => q), t.keep y4 (fun q => q)⟩, ⟨t.keep z0 (fun q => q), t.keep z1 (fun q => q), t.keep z2 (fun q => q), t.keep z3 (fun q => q), t.keep z4 (fun q => q)⟩, t.keep hp (fun q => q)⟩
  clear y0 y1 y2 y3 y4 z0 z1 z2 z3 z4 hp h
  go_enter Try.func29, Try.ntmps29
  go_wp2_with fail
  go_loopw [8] (fun c wr => (c = .int .i64 0 ∧ wr = w) ∨ (c = .int .i64 1 ∧ Shut (Turn no w wr))) (fun c _ => 2 - (intOf c).toNat)
  case atStart => exact Or.inl ⟨rfl, rfl⟩
  case round =>
    rcases hrel with ⟨rfl, rfl⟩ | ⟨rfl, HI⟩
    · obtain ⟨⟨y0, y1, y2, y3, y4⟩, _, hp⟩ := HK.out wr (Turn.refl _ _)
      have hcl := mine30 wr 1 100 0 0 false p 2 hp
      clear HK
      go_wp2_with fail
      refine hcl.mono ?_
      rintro e w1 ⟨rfl, t1⟩
      have HT := shut t1
      clear hcl t1
      go_wp2_with fail
      go_roundw
      case rel => exact Or.inr ⟨rfl, HT⟩
      case measure => simp [intOf]
    · obtain ⟨_, ⟨z0, z1, z2, z3, z4⟩, hp⟩ := HK.out wr HI.out
      have hcl := mine30 wr 2 0 50 7 false p 2 hp
      clear HK
      go_wp2_with fail
      refine hcl.mono ?_
      rintro e w1 ⟨rfl, t1⟩
      have HT := shut (HI.out.then_no t1)
      clear hcl t1
      go_wp2_with fail
      go_ret
      exact ⟨rfl, HT.out⟩
set_option maxRecDepth 100000 in
set_option maxHeartbeats 2000000 in
theorem find13 (w : World) (b off cap : Nat) (h : AsAt w (some ⟨b, off, none⟩) cap [acA, acB]) (x s : Int) : Calls Try.prog 13 #[.agg #[.slice (some ⟨b, off, none⟩) 2 cap, .slice none 0 0, .int .u64 x, .int .u64 s], .int .u64 2] w fun e w' =>
    e = .returned (.tuple #[.agg #[.int .u64 2, .int .u64 0, .int .u64 50, .int .u64 7, .bool false], .int .i64 0]) ∧ Turn no w w' := by
  obtain ⟨w0, hw0⟩ : ∃ w0, ((w.alloc (.cells #[.slice (some ⟨b, off, none⟩) 2 cap, .slice none 0 0, .int .u64 x, .int .u64 s] 29)).alloc (.cells #[.int .u64 2] 35)).alloc (.cells #[.int .u64 0, .int .u64 0, .int .u64 0, .int .u64 0, .bool false] 39) = w0 := ⟨_, rfl⟩
  have T0 : Turn no w w0 := by rw [← hw0]; exact (((Turn.refl no w).alloc _).alloc _).alloc _
  have g0 : w0.cell? ⟨w.heap.size, 0, none⟩ = some (.slice (some ⟨b, off, none⟩) 2 cap) := by
    rw [← hw0]
    exact (((Turn.refl no _).alloc _).alloc _).keep (cell_of_row _ _ 0 _ 29 (0, 0) (heap_alloc_new w _)) (fun q => q)
  have g1 : w0.cell? ⟨w.heap.size + 1, 0, none⟩ = some (.int .u64 2) := by
    rw [← hw0]
    exact ((Turn.refl no _).alloc _).keep (cell_of_row _ _ 0 _ 35 (0, 0) (heap_alloc2_new w _ _)) (fun q => q)
  have R0 : w0.heap[w.heap.size + 1 + 1]? = some (.cells #[.int .u64 0, .int .u64 0, .int .u64 0, .int .u64 0, .bool false] 39 (0, 0)) := by
    rw [← hw0]
    have := heap_alloc_new ((w.alloc (.cells #[.slice (some ⟨b, off, none⟩) 2 cap, .slice none 0 0, .int .u64 x, .int .u64 s] 29)).alloc (.cells #[.int .u64 2] 35)) (.cells #[.int .u64 0, .int .u64 0, .int .u64 0, .int .u64 0, .bool false] 39)
    simpa using this
  have hi := index29 w0 b off cap (h.turn_no T0) ⟨w.heap.size + 1, 0, none⟩ g1
  obtain ⟨b1, off1, eb, z0, z1, z2, z3, z4⟩ := (h.turn_no T0).cells 1 acB rfl
  cases eb
  have HK : Shut (∀ W, Turn no w0 W → W.cell? ⟨w.heap.size, 0, none⟩ = some (.slice (some ⟨b, off, none⟩) 2 cap) ∧ W.cell? ⟨w.heap.size + 1, 0, none⟩ = some (.int .u64 2) ∧ (W.cell? ⟨b, off + 5, none⟩ = some (.int .u64 2) ∧ W.cell? ⟨b, off + 5 + 1, none⟩ = some (.int .u64 0) ∧ W.cell? ⟨b, off + 5 + 2, none⟩ = some (.int .u64 50) ∧ W.cell? ⟨b, off + 5 + 3, none⟩ = some (.int .u64 7) ∧ W.cell? ⟨b, off + 5 + 4, none⟩ = some (.bool false)) ∧ W.heap[w.heap.size + 1 + 1]? = some (.cells #[.int .u64 0, .int .u64 0, .int .u64 0, .int .u64 0, .bool false] 39 (0, 0)) ∧ Turn no w W) := fun W t =>
    ⟨t.keep g0 (fun q => q), t.keep g1 (fun q => q), ⟨t.keep z0 (fun q => q), t.keep z1 (fun q => q), t.keep z2 (fun q => q), t.keep z3 (fun q => q), t.keep z4 (fun q => q)⟩, t.obj R0 (fun q => q), T0.then_no t⟩
  have hmf : ∀ (fn : Fn) (first cap : Array Value) (w : World), (Instr.makeFunc fn first cap).run Try.prog w = .ok (.func fn first cap) w := fun _ _ _ _ => rfl
  clear z0 z1 z2 z3 z4 h R0 g1 T0
  go_enter Try.func13, Try.ntmps13
  go_wp2_with fail
  refine hi.mono ?_
  rintro e w1 ⟨rfl, t1⟩
  obtain ⟨g0, g1, ⟨z0, z1, z2, z3, z4⟩, R1, T1⟩ := HK.out w1 t1
  have HT := shut T1
  have HR := shut R1
  clear hi t1 T1 HK R1 hw0 hmf
  go_upto_region 4 with fail
  have hR := HR.out
  have hi5 : (Try.prog.info? 39).map (·.size) = some (#[Value.int .u64 2, .int .u64 0, .int .u64 50, .int .u64 7, .bool false]).size := by kernel_rfl
  have ho5 : (#[Value.int .u64 0, .int .u64 0, .int .u64 0, .int .u64 0, .bool false]).size = (#[Value.int .u64 2, .int .u64 0, .int .u64 50, .int .u64 7, .bool false]).size := rfl
  have h15 : (#[Value.int .u64 2, .int .u64 0, .int .u64 50, .int .u64 7, .bool false]).all (·.oneCell') = true := by simp [Value.oneCell']
  have HH := shut (And.intro hi5 (And.intro ho5 h15))
  clear hi5 ho5 h15
  go_wp2_with (refine wpList_store_row rfl 39 (.tmp 4) (.tmp 22) rfl (w.heap.size + 1 + 1) #[.int .u64 2, .int .u64 0, .int .u64 50, .int .u64 7, .bool false] rfl rfl 39 #[.int .u64 0, .int .u64 0, .int .u64 0, .int .u64 0, .bool false] hR HH.out.1 HH.out.2.1 HH.out.2.2 ?_)
  have R2 := setRow_heap w1 (w.heap.size + 1 + 1) _ #[.int .u64 2, .int .u64 0, .int .u64 50, .int .u64 7, .bool false] 39 _ HR.out
  have T2 : Turn no w (w1.setRow (w.heap.size + 1 + 1) #[.int .u64 2, .int .u64 0, .int .u64 50, .int .u64 7, .bool false]) :=
    HT.out.trans (S' := fun k => k = w.heap.size + 1 + 1) ⟨rfl, rfl, rfl, by simp [World.setRow], fun k _ hk => setRow_other w1 _ k _ hk⟩ (fun i hi q => by omega)
  exact ⟨rfl, _, results_cell_row_tmp (g := w.heap.size + 1 + 1) (cs := #[.int .u64 2, .int .u64 0, .int .u64 50, .int .u64 7, .bool false]) (t := 39) rfl _ _ _ _ rfl R2 Try.underlying39 rfl (by kernel_rfl), rfl, T2⟩

def lAB : Array Value := #[.int .u64 1, .int .u64 100, .int .u64 0, .int .u64 0, .bool false, .int .u64 2, .int .u64 0, .int .u64 50, .int .u64 7, .bool false]
theorem as_two (w : World) : AsAt (w.alloc (.cells lAB 39)) (some ⟨w.heap.size, 0, none⟩) 2 [acA, acB] := by
  have R := heap_alloc_new w (.cells lAB 39)
  refine ⟨by simp, by simp [maxLen], fun x hx => ?_, fun j x hj => ?_⟩
  · simp at hx
    rcases hx with rfl | rfl
    · exact acA_ok
    · exact acB_ok
  · match j with
    | 0 =>
      simp at hj
      subst hj
      exact ⟨_, _, rfl, cell_of_row _ _ 0 _ 39 (0, 0) R, cell_of_row _ _ 1 _ 39 (0, 0) R, cell_of_row _ _ 2 _ 39 (0, 0) R, cell_of_row _ _ 3 _ 39 (0, 0) R, cell_of_row _ _ 4 _ 39 (0, 0) R⟩
    | 1 =>
      simp at hj
      subst hj
      exact ⟨_, _, rfl, cell_of_row _ _ 5 _ 39 (0, 0) R, cell_of_row _ _ 6 _ 39 (0, 0) R, cell_of_row _ _ 7 _ 39 (0, 0) R, cell_of_row _ _ 8 _ 39 (0, 0) R, cell_of_row _ _ 9 _ 39 (0, 0) R⟩
    | j + 2 => simp at hj
theorem wholeAB : wholeN 0 [acA, acB] [] = 150 := by decide +kernel
theorem soundAB : soundE 0 [acA, acB] 150 = 0 := by decide +kernel
set_option maxRecDepth 100000 in
set_option maxHeartbeats 4000000 in
theorem alive5 (w : World) : Calls Try.prog 5 #[] w fun e w' => e = .returned (.bool true) ∧ Turn no w w' := by
  have T0 : Turn no w (w.alloc (.cells lAB 39)) := (Turn.refl no w).alloc _
  have hn : Calls Try.prog 6 #[.slice (some ⟨w.heap.size, 0, none⟩) 2 2] (w.alloc (.cells #[.int .u64 1, .int .u64 100, .int .u64 0, .int .u64 0, .bool false, .int .u64 2, .int .u64 0, .int .u64 50, .int .u64 7, .bool false] 39)) _ := new6 (w.alloc (.cells lAB 39)) _ [acA, acB] ⟨_, _, rfl, as_two w⟩ (by decide)
  have HT0 := shut T0
  clear T0
  go_enter Try.func5, Try.ntmps5
  go_wp2_with fail
  refine hn.mono ?_
  rintro e w1 hq
  rw [wholeAB, soundAB] at hq
  rcases hq with ⟨_, v1, rfl, O1, f1, t1⟩ | ⟨hq, _⟩
  · have A1 : As w1 v1 [acA, acB] := O1.as (fun m hm => by
      simp at hm
      rcases hm with rfl | rfl
      · exact acA_ok
      · exact acB_ok)
    obtain ⟨a1, c1, rfl, A1⟩ := A1
    obtain ⟨b1, o1, rfl, _⟩ := A1.cells 0 acA rfl
    have HA := shut A1
    have HT1 := shut (HT0.out.then_no t1)
    clear O1 f1 A1 t1 HT0 hn
    obtain ⟨w2, hw2⟩ : ∃ w2, w1.alloc (.cells #[.slice (some ⟨b1, o1, none⟩) 2 c1, .slice none 0 0, .int .u64 0, .int .u64 150] 29) = w2 := ⟨_, rfl⟩
    have t2 : Turn no w1 w2 := by rw [← hw2]; exact (Turn.refl no w1).alloc _
    have R2 : w2.heap[w1.heap.size]? = some (.cells #[.slice (some ⟨b1, o1, none⟩) 2 c1, .slice none 0 0, .int .u64 0, .int .u64 150] 29 (0, 0)) := by rw [← hw2]; exact heap_alloc_new w1 _
    have HK : Shut (∀ W, Turn no w2 W → W.cell? ⟨w1.heap.size, 0, none⟩ = some (.slice (some ⟨b1, o1, none⟩) 2 c1) ∧ W.cell? ⟨w1.heap.size, 1, none⟩ = some (.slice none 0 0) ∧ W.cell? ⟨w1.heap.size, 2, none⟩ = some (.int .u64 0) ∧ W.cell? ⟨w1.heap.size, 3, none⟩ = some (.int .u64 150) ∧ AsAt W (some ⟨b1, o1, none⟩) c1 [acA, acB] ∧ Turn no w W) := fun W t =>
      ⟨t.keep (cell_of_row _ _ 0 _ 29 (0, 0) R2) (fun q => q), t.keep (cell_of_row _ _ 1 _ 29 (0, 0) R2) (fun q => q), t.keep (cell_of_row _ _ 2 _ 29 (0, 0) R2) (fun q => q), t.keep (cell_of_row _ _ 3 _ 29 (0, 0) R2) (fun q => q), (HA.out.turn_no t2).turn_no t, (HT1.out.then_no t2).then_no t⟩
    clear t2 R2 HA HT1
    go_upto_region 2 with fail
    obtain ⟨k0, k1, k2, k3, A2, _⟩ := HK.out w2 (Turn.refl _ _)
    have hs : Calls Try.prog 8 #[.agg #[.slice (some ⟨b1, o1, none⟩) 2 c1, .slice none 0 0, .int .u64 0, .int .u64 150], .agg #[.int .u64 10, .int .i64 2, .int .u64 0, .int .u64 0, .int .u64 0, .int .i64 0, .int .u64 0, .int .u64 0, .int .u64 0, .int .u64 0, .int .u64 0, .int .u64 0]] w2 _ := seats_two w2 ⟨b1, o1, none⟩ c1 A2 0 150
    clear A2
    go_wp2_with fail
    refine hs.mono ?_
    rintro e w3 ⟨g3, c3, rfl, hc3, y0, y1, t3⟩
    obtain ⟨k0, k1, k2, k3, A3, _⟩ := HK.out w3 t3
    have hf := find13 w3 b1 o1 c1 A3 0 150
    have HT3 := shut t3
    have HY := shut (And.intro y0 y1)
    clear A3 hs t3 y0 y1 hw2
    go_upto_region 3 with fail
    go_wp2_with fail
    refine hf.mono ?_
    rintro e w4 ⟨rfl, t4⟩
    have t5 : Turn no w3 (w4.alloc (.cells #[.int .u64 2, .int .u64 0, .int .u64 50, .int .u64 7, .bool false] 39)) := t4.alloc _
    obtain ⟨k0, k1, k2, k3, _, TT⟩ := HK.out _ (HT3.out.then_no t5)
    have y0 := t5.keep HY.out.1 (fun q => q)
    have y1 := t5.keep HY.out.2 (fun q => q)
    have HTT := shut TT
    clear TT t4 t5 hf HK HT3 HY
    go_wp2_with fail
    go_ret
    exact ⟨rfl, HTT.out⟩
  · exact absurd rfl hq
end Go.Proofs.Ytdbfbdhnjbmmjaa
