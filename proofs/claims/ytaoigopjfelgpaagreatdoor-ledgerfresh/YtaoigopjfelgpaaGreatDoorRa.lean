/- Texts in one. -/
import Derived.Test.YtaoigopjfelgpaaGreatDoorLb
import Derived.Test.YtaoigopjfelgpaaGreatDoorGa
import Derived.Test.YtaoigopjfelgpaaGreatDoorDa
import Derived.Test.YtaoigopjfelgpaaGreatDoorC1
import Derived.Test.YtaoigopjfelgpaaGreatDoorJa
import Derived.Test.YtaoigopjfelgpaaGreatDoorP1
import Derived.Test.YtaoigopjfelgpaaGreatDoorPc
/- Pay of both, of a ledger without releases. -/
namespace Go.Proofs.YtaoigopjfelgpaaGreatDoor
open Go.RowKit
set_option linter.unusedVariables false

theorem height25 (w : World) (h : Nat) (h1 : 1 ≤ h) (h2 : h ≤ 1000) : Calls Tryz.prog 25 #[.int .u64 h] w fun e w' => e = .returned (.bool true) ∧ w' = w := by
  have a1 : (1 : Int) ≤ (h : Int) := by omega
  have a2 : (h : Int) ≤ 1099511627776 := by omega
  go_enter Tryz.func25, Tryz.ntmps25
  go_wp2_with fail
  go_ret
  exact ⟨rfl, rfl⟩
theorem relcopy29 (w : World) : Calls Tryz.prog 29 #[.slice none 0 0] w fun e w' => e = .returned (.slice none 0 0) ∧ w' = w := by
  go_enter Tryz.func29, Tryz.ntmps29
  go_wp2_with fail
  go_ret
  exact ⟨rfl, rfl⟩
theorem search26 (w : World) (p q : Value) : Calls Tryz.prog 26 #[.int .i64 0, .func (.func 27) #[] #[p, q]] w fun e w' => e = .returned (.int .i64 0) ∧ Turn no w w' := by
  have eg : ∀ args w, (callFunc 27 args).run Tryz.prog w = .ok (.enter 27 args) w := enters_of Tryz.func27 (by kernel_rfl) rfl
  have hS := Any.sort_Search searchT 27 #[p, q] 0 (fun _ => false) w eg (by omega) (fun m os i hi => by omega) (fun x y _ h _ => by omega)
  change Calls Tryz.prog 26 _ _ _ at hS
  refine hS.mono ?_
  rintro e w1 ⟨rfl, d, os, rfl⟩
  exact ⟨rfl, Gw.turn ⟨d, os, rfl⟩⟩
set_option maxRecDepth 100000 in
set_option maxHeartbeats 16000000 in
theorem pay7 (w : World) (va : Value) (l : List Ac) (ha : As w va l) (hl : l.length * 40 ≤ 140737488355328) (b s h : Nat) (h1 : 1 ≤ h) (h2 : h ≤ 1000) : Calls Tryz.prog 7 #[.agg (#[va, .slice none 0 0, .int .u64 b, .int .u64 s]), .int .u64 h] w fun e w' => ∃ v', e = .returned (.tuple #[.agg (#[v', .slice none 0 0, .int .u64 b, .int .u64 s]), .int .i64 0]) ∧ OwnN w' 50 5 v' l.length (acC l) ∧ (∀ g, v'.ownBlock = some g → w.heap.size ≤ g) ∧ Turn no w w' := by
  obtain ⟨w0, hw0⟩ : ∃ w0, ((w.alloc (.cells #[va, .slice none 0 0, .int .u64 b, .int .u64 s] 30)).alloc (.cells #[.int .u64 h] 23)).alloc (.cells #[.slice none 0 0, .slice none 0 0, .int .u64 0, .int .u64 0] 30) = w0 := ⟨_, rfl⟩
  have T0 : Turn no w w0 := by rw [← hw0]; exact (((Turn.refl no w).alloc _).alloc _).alloc _
  have s1 : (w.alloc (.cells #[va, .slice none 0 0, .int .u64 b, .int .u64 s] 30)).heap.size = w.heap.size + 1 := by simp
  have RL : Row w0 w.heap.size #[va, .slice none 0 0, .int .u64 b, .int .u64 s] 30 := by rw [← hw0]; exact ((Row.new w _ 30).alloc _).alloc _
  have RH : Row w0 (w.heap.size + 1) #[.int .u64 h] 23 := by rw [← hw0]; exact (Row.newAt _ _ _ _ (by simp)).alloc _
  have RZ : Row w0 (w.heap.size + 2) #[.slice none 0 0, .slice none 0 0, .int .u64 0, .int .u64 0] 30 := by rw [← hw0]; exact Row.newAt _ _ _ _ (by simp)
  have HCO : Shut (∀ W, Turn no w0 W → Calls Tryz.prog 22 #[va] W fun e w' => ∃ v', e = .returned v' ∧ OwnN w' 50 5 v' l.length (acC l) ∧ (∀ g, v'.ownBlock = some g → W.heap.size ≤ g) ∧ Turn no W w') := fun W t => copied20 W va l (ha.turn_no (T0.then_no t)) hl
  obtain ⟨ada, capa, eva, -⟩ := id ha
  have HT0 := shut T0
  have x1 := RH.cell 0 _ rfl
  clear ha T0 s1 hl
  generalize l.length = nl at *
  generalize acC l = AL at *
  subst eva
  go_enter Tryz.func7, Tryz.ntmps7
  go_upto_region 1 with fail
  try rw [hw0]
  clear hw0
  go_upto_region 3 with (go_at_call 25; refine (height25 _ h h1 h2).mono ?_; rintro e w' ⟨rfl, hw'⟩; rw [hw']; clear hw')
  have c0 := RL.cell 0 _ rfl
  have c1 := RL.cell 1 _ rfl
  have c2 := RL.cell 2 _ rfl
  have c3 := RL.cell 3 _ rfl
  go_upto_region 4 with (go_at_call 26; refine (search26 _ _ _).mono ?_; rintro e w1 ⟨rfl, t1⟩)
  have RL1 := RL.turn t1 (fun q => q)
  have RZ1 := RZ.turn t1 (fun q => q)
  have hs1 := t1.size
  have hlt := RZ.lt
  have c0 := RL1.cell 0 _ rfl
  have c1 := RL1.cell 1 _ rfl
  have c2 := RL1.cell 2 _ rfl
  have c3 := RL1.cell 3 _ rfl
  obtain ⟨w2, hw2⟩ : ∃ w2, w1.alloc (.cells #[.slice ada nl capa, .slice none 0 0, .int .u64 b, .int .u64 s] 30) = w2 := ⟨_, rfl⟩
  have T12 : Turn no w1 w2 := by rw [← hw2]; exact (Turn.refl no w1).alloc _
  have R2 : Row w2 w1.heap.size #[.slice ada nl capa, .slice none 0 0, .int .u64 b, .int .u64 s] 30 := by rw [← hw2]; exact Row.new w1 _ 30
  have RL2 := RL1.turn T12 (fun q => q)
  have RZ2 := RZ1.turn T12 (fun q => q)
  have T02 := t1.then_no T12
  go_upto_region 5 with fail
  try rw [hw2]
  clear hw2 c0 c1 c2 c3 x1
  generalize w1.heap.size = g7 at *
  have c0 := RL2.cell 0 _ rfl
  have d0 := R2.cell 0 _ rfl
  have df := R2.frozen 0
  have hc := HCO.out w2 T02
  go_upto_region 6 with (first | (go_at_call 22; refine hc.mono ?_; clear hc; rintro e w3 ⟨v3, rfl, O3, f3, t3⟩; obtain ⟨a3, cp3, e3, -⟩ := O3.form; subst e3; have R3 := R2.turn t3 (fun q => q); have d0 := R3.cell 0 _ rfl; have df := R3.frozen 0))
  have T03 := T02.then_no t3
  have hlt2 := R2.lt
  have hg7 : w.heap.size + 2 < g7 := by omega
  obtain ⟨w4, hw4⟩ : ∃ w4, w3.setCell ⟨g7, 0, none⟩ (.slice a3 nl cp3) = w4 := ⟨_, rfl⟩
  have TG : Turn (fun q => q = g7) w3 w4 := by rw [← hw4]; exact (Turn.refl (fun q => q = g7) w3).setCell (p := ⟨g7, 0, none⟩) (fun _ => rfl) _
  have R4 : Row w4 g7 #[.slice a3 nl cp3, .slice none 0 0, .int .u64 b, .int .u64 s] 30 := by rw [← hw4]; exact R3.set 0 _
  have RL4 := (RL2.turn t3 (fun q => q)).turn TG (fun e => by have e' : w.heap.size = g7 := e; omega)
  have RZ4 := (RZ2.turn t3 (fun q => q)).turn TG (fun e => by have e' : w.heap.size + 2 = g7 := e; omega)
  have O4 := O3.turn TG (fun g hg e => by have := f3 g hg; have e' : g = g7 := e; omega)
  have hs2 := T02.size
  have T04 : Turn no w0 w4 := T03.trans TG (fun i hi e => by have e' : i = g7 := e; omega)
  have HO := shut O4
  have HF : Shut (∀ g, (Value.slice a3 nl cp3).ownBlock = some g → w.heap.size + 3 ≤ g ∧ g7 < g) := fun g hg => by have := f3 g hg; omega
  try rw [hw4]
  clear hw4 c0 d0 df TG R3 R2 RL2 RZ2 O3 O4 f3 t3 T03 t1 T12 T02 RL RZ RL1 RZ1 RH
  have c1 := RL4.cell 1 _ rfl
  go_upto_region 7 with fail
  clear c1
  go_loopw [31] (fun x wr => x = .int .i64 0 ∧ wr = w4) (fun _ _ => 0)
  case atStart => exact ⟨rfl, rfl⟩
  case round =>
    obtain ⟨rfl, hwr⟩ := hrel
    rw [hwr]
    clear hwr
    have c1 := RL4.cell 1 _ rfl
    have d1 := R4.cell 1 _ rfl
    have df := R4.frozen 1
    go_upto_region 14 with (go_at_call 29; refine (relcopy29 _).mono ?_; rintro e w' ⟨rfl, hw'⟩; rw [hw']; clear hw')
    obtain ⟨w5, hw5⟩ : ∃ w5, w4.setCell ⟨g7, 1, none⟩ (.slice none 0 0) = w5 := ⟨_, rfl⟩
    have TG : Turn (fun q => q = g7) w4 w5 := by rw [← hw5]; exact (Turn.refl (fun q => q = g7) w4).setCell (p := ⟨g7, 1, none⟩) (fun _ => rfl) _
    have R5 : Row w5 g7 #[.slice a3 nl cp3, .slice none 0 0, .int .u64 b, .int .u64 s] 30 := by rw [← hw5]; exact R4.set 1 _
    have RZ5 := RZ4.turn TG (fun e => by have e' : w.heap.size + 2 = g7 := e; omega)
    have O5 := HO.out.turn TG (fun g hg e => by have := HF.out g hg; have e' : g = g7 := e; omega)
    have T05 : Turn no w0 w5 := T04.trans TG (fun i hi e => by have e' : i = g7 := e; omega)
    try rw [hw5]
    have TS := (Turn.refl (fun q => q = w.heap.size + 2) w5).setRow (w.heap.size + 2) #[.slice a3 nl cp3, .slice none 0 0, .int .u64 b, .int .u64 s] (fun _ => rfl)
    have HEnd : Shut (OwnN (w5.setRow (w.heap.size + 2) #[.slice a3 nl cp3, .slice none 0 0, .int .u64 b, .int .u64 s]) 50 5 (.slice a3 nl cp3) nl AL ∧ (∀ g, (Value.slice a3 nl cp3).ownBlock = some g → w.heap.size ≤ g) ∧ Turn no w (w5.setRow (w.heap.size + 2) #[.slice a3 nl cp3, .slice none 0 0, .int .u64 b, .int .u64 s])) := shut ⟨O5.turn TS (fun g hg e => by have := HF.out g hg; have e' : g = w.heap.size + 2 := e; omega), fun g hg => by have := HF.out g hg; omega, (HT0.out.then_no T05).setRow _ _ (fun q => by omega)⟩
    have iL : (Tryz.prog.info? 30).map (·.size) = some (#[.slice a3 nl cp3, .slice none 0 0, .int .u64 b, .int .u64 s] : Array Value).size := by kernel_rfl
    have oL : (#[.slice a3 nl cp3, .slice none 0 0, .int .u64 b, .int .u64 s] : Array Value).all (·.oneCell') = true := by simp [Value.oneCell']
    clear hw5 c1 d1 df TG T05 O5 TS R4 RZ4 RL4 T04 HO HF
    generalize hEA : (#[.slice a3 nl cp3, .slice none 0 0, .int .u64 b, .int .u64 s] : Array Value) = EA at *
    generalize hZA : (#[.slice none 0 0, .slice none 0 0, .int .u64 0, .int .u64 0] : Array Value) = ZA at *
    have sZ : ZA.size = EA.size := by rw [← hZA, ← hEA]; rfl
    have hEA := shut hEA
    have hZA := shut hZA
    go_wp2_with (first | (guard_target =~ wpList _ _ _ ({ dst := _, op := Op.load 30 _, .. } :: _) _ _; refine wpList_load_row rfl 30 (.tmp 7) rfl g7 rfl 30 EA _ _ R5 Tryz.underlying30 rfl iL ?_) | (guard_target =~ wpList _ _ _ ({ dst := _, op := Op.store 30 _ _, .. } :: _) _ _; refine wpList_store_row rfl 30 (.tmp 4) (.tmp 62) rfl (w.heap.size + 2) EA rfl rfl 30 ZA RZ5 iL sZ oL ?_))
    refine bodyPost_ret (v := .tuple #[.agg EA, .int .i64 0]) ?_ rfl ⟨.slice a3 nl cp3, by rw [← hEA.out], HEnd.out⟩
    exact results_cell_row_tmp (P := Tryz.prog) Tryz.results7 _ _ (w.heap.size + 2) 30 EA (0, 0) _ rfl (setRow_heap _ _ _ _ _ _ RZ5) Tryz.underlying30 rfl iL
end Go.Proofs.YtaoigopjfelgpaaGreatDoor

/- The document's Copy and Pay, of a ledger without releases. -/
namespace Go.Proofs.YtaoigopjfelgpaaGreatDoor
open Go.RowKit
set_option linter.unusedVariables false

theorem As.src {w : World} {v : Value} {l : List Ac} (h : As w v l) : ∃ a c, v = .slice a l.length c ∧ Src Tryz.prog 5 22 (.slice a l.length c) l.length (acC l) w := by
  obtain ⟨a, c, rfl, h⟩ := h
  refine ⟨a, c, rfl, ?_⟩
  cases a with
  | none =>
    have : l = [] := by
      cases l with
      | nil => rfl
      | cons x r =>
        obtain ⟨b, off, e, _⟩ := h.cells 0 x rfl
        cases e
    subst this
    exact Src.ofNil w Tryz.underlying22 c
  | some a => exact h.src
theorem app_nil28 (w : World) : (Builtin.append_ #[28, 28] 28 #[.slice none 0 0, .slice none 0 0]).run Tryz.prog w = .ok (.slice none 0 0) w := by kernel_rfl
theorem bld30 (w : World) (b s : Nat) : (Instr.build 30 #[(2, .int .u64 b), (3, .int .u64 s)]).run Tryz.prog w = .ok (.agg #[.slice none 0 0, .slice none 0 0, .int .u64 b, .int .u64 s]) w := by kernel_rfl
set_option maxRecDepth 100000 in
set_option maxHeartbeats 16000000 in
theorem copy35 (w : World) (va : Value) (l : List Ac) (ha : As w va l) (hl : l.length * 40 ≤ 140737488355328) (b s : Nat) : Calls Tryz.prog 35 #[.agg #[va, .slice none 0 0, .int .u64 b, .int .u64 s]] w fun e w' => ∃ v', e = .returned (.agg #[v', .slice none 0 0, .int .u64 b, .int .u64 s]) ∧ OwnN w' 50 5 v' l.length (acC l) ∧ (∀ g, v'.ownBlock = some g → w.heap.size ≤ g) ∧ Turn no w w' := by
  obtain ⟨w0, hw0⟩ : ∃ w0, ((w.alloc (.cells #[va, .slice none 0 0, .int .u64 b, .int .u64 s] 30)).alloc (.cells #[.slice none 0 0, .slice none 0 0, .int .u64 0, .int .u64 0] 30)) = w0 := ⟨_, rfl⟩
  have T0 : Turn no w w0 := by rw [← hw0]; exact ((Turn.refl no w).alloc _).alloc _
  have RL : Row w0 w.heap.size #[va, .slice none 0 0, .int .u64 b, .int .u64 s] 30 := by rw [← hw0]; exact (Row.new w _ 30).alloc _
  have RZ : Row w0 (w.heap.size + 1) #[.slice none 0 0, .slice none 0 0, .int .u64 0, .int .u64 0] 30 := by rw [← hw0]; exact Row.newAt _ _ _ _ (by simp)
  obtain ⟨w1, hw1⟩ : ∃ w1, w0.alloc (.cells #[.slice none 0 0, .slice none 0 0, .int .u64 b, .int .u64 s] 30) = w1 := ⟨_, rfl⟩
  have T1 : Turn no w0 w1 := by rw [← hw1]; exact (Turn.refl no w0).alloc _
  have R1 : Row w1 w0.heap.size #[.slice none 0 0, .slice none 0 0, .int .u64 b, .int .u64 s] 30 := by rw [← hw1]; exact Row.new w0 _ 30
  have RL1 := RL.turn T1 (fun q => q)
  have RZ1 := RZ.turn T1 (fun q => q)
  obtain ⟨ada, capa, eva, hsrc⟩ := (ha.turn_no (T0.then_no T1)).src
  have hm : l.length ≤ maxLen := by simp only [maxLen]; omega
  obtain ⟨v2, w2, r2, O2, G2⟩ := run_append_srcN (P := Tryz.prog) Tryz.underlying22 info39 rfl (by decide) 22 w1 (.slice none 0 0) 0 [] (OwnN.nil w1 50 5) _ l.length (acC l) hsrc (by omega) (by omega)
  rw [Nat.zero_add, List.nil_append] at O2
  have T2 : Turn no w1 w2 := G2.turn.mono (fun i _ q => by cases q)
  have f2 := G2.fresh (B := w1.heap.size) (fun g q => by cases q) (Nat.le_refl _)
  obtain ⟨a2, c2, e2, -⟩ := O2.form
  subst e2
  have R2 := R1.turn T2 (fun q => q)
  have RL2 := RL1.turn T2 (fun q => q)
  have RZ2 := RZ1.turn T2 (fun q => q)
  have hg0 := RZ.lt
  have hg1 := R1.lt
  have hs0 := T0.size
  generalize hg : w0.heap.size = g3 at *
  have x0 := RL1.cell 0 _ rfl
  have x2 := RL.cell 2 _ rfl
  have x3 := RL.cell 3 _ rfl
  have y0 := R1.cell 0 _ rfl
  have d0 := R2.cell 0 _ rfl
  have df := R2.frozen 0
  obtain ⟨w4, hw4⟩ : ∃ w4, w2.setCell ⟨g3, 0, none⟩ (.slice a2 l.length c2) = w4 := ⟨_, rfl⟩
  have TG : Turn (fun q => q = g3) w2 w4 := by rw [← hw4]; exact (Turn.refl (fun q => q = g3) w2).setCell (p := ⟨g3, 0, none⟩) (fun _ => rfl) _
  have R4 : Row w4 g3 #[.slice a2 l.length c2, .slice none 0 0, .int .u64 b, .int .u64 s] 30 := by rw [← hw4]; exact R2.set 0 _
  have RL4 := RL2.turn TG (fun e => by have e' : w.heap.size = g3 := e; omega)
  have RZ4 := RZ2.turn TG (fun e => by have e' : w.heap.size + 1 = g3 := e; omega)
  have O4 := O2.turn TG (fun g hg e => by have := f2 g hg; have e' : g = g3 := e; omega)
  have T04 : Turn no w w4 := ((T0.then_no T1).then_no T2).trans TG (fun i hi e => by have e' : i = g3 := e; omega)
  have x1 := RL4.cell 1 _ rfl
  have y1 := R4.cell 1 _ rfl
  have yf := R4.frozen 1
  obtain ⟨w5, hw5⟩ : ∃ w5, w4.setCell ⟨g3, 1, none⟩ (.slice none 0 0) = w5 := ⟨_, rfl⟩
  have TG5 : Turn (fun q => q = g3) w4 w5 := by rw [← hw5]; exact (Turn.refl (fun q => q = g3) w4).setCell (p := ⟨g3, 1, none⟩) (fun _ => rfl) _
  have R5 : Row w5 g3 #[.slice a2 l.length c2, .slice none 0 0, .int .u64 b, .int .u64 s] 30 := by rw [← hw5]; exact R4.set 1 _
  have RZ5 := RZ4.turn TG5 (fun e => by have e' : w.heap.size + 1 = g3 := e; omega)
  have O5 := O4.turn TG5 (fun g hg e => by have := f2 g hg; have e' : g = g3 := e; omega)
  have T05 : Turn no w w5 := T04.trans TG5 (fun i hi e => by have e' : i = g3 := e; omega)
  have TS := (Turn.refl (fun q => q = w.heap.size + 1) w5).setRow (w.heap.size + 1) #[.slice a2 l.length c2, .slice none 0 0, .int .u64 b, .int .u64 s] (fun _ => rfl)
  have HEnd : Shut (OwnN (w5.setRow (w.heap.size + 1) #[.slice a2 l.length c2, .slice none 0 0, .int .u64 b, .int .u64 s]) 50 5 (.slice a2 l.length c2) l.length (acC l) ∧ (∀ g, (Value.slice a2 l.length c2).ownBlock = some g → w.heap.size ≤ g) ∧ Turn no w (w5.setRow (w.heap.size + 1) #[.slice a2 l.length c2, .slice none 0 0, .int .u64 b, .int .u64 s])) := shut ⟨O5.turn TS (fun g hg e => by have := f2 g hg; have e' : g = w.heap.size + 1 := e; omega), fun g hg => by have := f2 g hg; omega, T05.setRow _ _ (fun q => by omega)⟩
  have iL : (Tryz.prog.info? 30).map (·.size) = some (#[.slice a2 l.length c2, .slice none 0 0, .int .u64 b, .int .u64 s] : Array Value).size := by kernel_rfl
  have oL : (#[.slice a2 l.length c2, .slice none 0 0, .int .u64 b, .int .u64 s] : Array Value).all (·.oneCell') = true := by simp [Value.oneCell']
  have hb30 := bld30 w0 b s
  have hn28 := app_nil28 w4
  clear ha T0 T1 T2 G2 f2 O2 O4 O5 R1 R2 R4 RL1 RL2 RL4 RZ RZ1 RZ2 RZ4 T04 T05 TG TG5 TS hsrc hm hl RL
  subst eva
  generalize l.length = nl at *
  go_enter Tryz.func35, Tryz.ntmps35
  go_upto_region 1 with fail
  try rw [hw0]
  clear hw0
  go_upto_region 2 with (guard_target =~ wpList _ _ _ ({ dst := _, op := Op.build 30 _, .. } :: _) _ _; refine wpList_buildG (by kernel_rfl) 30 rfl _ hb30 ?_)
  try rw [hg]
  try rw [hw1]
  clear hw1 hb30
  go_upto_region 3 with (guard_target =~ wpList _ _ _ ({ dst := some 13, op := Op.call _, .. } :: _) _ _; at_builtin; refine wpList_append_run rfl (.tmp 10) (.tmp 12) rfl _ _ rfl rfl r2 ?_)
  try rw [hw4]
  clear hw4 r2
  go_upto_region 4 with (guard_target =~ wpList _ _ _ ({ dst := some 19, op := Op.call _, .. } :: _) _ _; at_builtin; refine wpList_append_run rfl (.tmp 16) (.tmp 18) rfl _ _ rfl rfl hn28 ?_)
  try rw [hw5]
  clear hw5 hn28 x0 x1 x2 x3 y0 y1 d0 df yf
  generalize hEA : (#[.slice a2 nl c2, .slice none 0 0, .int .u64 b, .int .u64 s] : Array Value) = EA at *
  generalize hZA : (#[.slice none 0 0, .slice none 0 0, .int .u64 0, .int .u64 0] : Array Value) = ZA at *
  have sZ : ZA.size = EA.size := by rw [← hZA, ← hEA]; rfl
  have hEA := shut hEA
  have hZA := shut hZA
  go_wp2_with (first | (guard_target =~ wpList _ _ _ ({ dst := _, op := Op.load 30 _, .. } :: _) _ _; refine wpList_load_row rfl 30 (.tmp 3) rfl g3 rfl 30 EA _ _ R5 Tryz.underlying30 rfl iL ?_) | (guard_target =~ wpList _ _ _ ({ dst := _, op := Op.store 30 _ _, .. } :: _) _ _; refine wpList_store_row rfl 30 (.tmp 2) (.tmp 21) rfl (w.heap.size + 1) EA rfl rfl 30 ZA RZ5 iL sZ oL ?_))
  refine bodyPost_ret (v := .agg EA) ?_ rfl ⟨.slice a2 nl c2, by rw [← hEA.out], HEnd.out⟩
  exact results_cell_row (P := Tryz.prog) Tryz.results35 _ _ (w.heap.size + 1) 30 EA (0, 0) _ rfl (setRow_heap _ _ _ _ _ _ RZ5) Tryz.underlying30 rfl iL
set_option maxRecDepth 100000 in
set_option maxHeartbeats 16000000 in
theorem rpay9 (w : World) (va : Value) (l : List Ac) (ha : As w va l) (hl : l.length * 40 ≤ 140737488355328) (b s h : Nat) (h1 : 1 ≤ h) (h2 : h ≤ 1000) : Calls Tryz.prog 9 #[.agg #[va, .slice none 0 0, .int .u64 b, .int .u64 s], .int .u64 h] w fun e w' => ∃ v', e = .returned (.tuple #[.agg #[v', .slice none 0 0, .int .u64 b, .int .u64 s], .int .i64 0]) ∧ OwnN w' 50 5 v' l.length (acC l) ∧ (∀ g, v'.ownBlock = some g → w.heap.size ≤ g) ∧ Turn no w w' := by
  obtain ⟨w0, hw0⟩ : ∃ w0, (w.alloc (.cells #[va, .slice none 0 0, .int .u64 b, .int .u64 s] 30)).alloc (.cells #[.slice none 0 0, .slice none 0 0, .int .u64 0, .int .u64 0] 30) = w0 := ⟨_, rfl⟩
  have T0 : Turn no w w0 := by rw [← hw0]; exact ((Turn.refl no w).alloc _).alloc _
  have RL : Row w0 w.heap.size #[va, .slice none 0 0, .int .u64 b, .int .u64 s] 30 := by rw [← hw0]; exact (Row.new w _ 30).alloc _
  have RZ : Row w0 (w.heap.size + 1) #[.slice none 0 0, .slice none 0 0, .int .u64 0, .int .u64 0] 30 := by rw [← hw0]; exact Row.newAt _ _ _ _ (by simp)
  have hc := copy35 w0 va l (ha.turn_no T0) hl b s
  obtain ⟨ada, capa, eva, -⟩ := id ha
  have HT0 := shut T0
  have b1 : ((h : Int) == 0) = false := by simp; omega
  have b2 : ¬ (1099511627776 : Int) < (h : Int) := by omega
  clear ha T0 hl h1 h2
  generalize l.length = nl at *
  generalize acC l = AL at *
  subst eva
  have hlt := RZ.lt
  go_enter Tryz.func9, Tryz.ntmps9
  go_upto_region 1 with fail
  try rw [hw0]
  clear hw0
  have c0 := RL.cell 0 _ rfl
  have c1 := RL.cell 1 _ rfl
  have c2 := RL.cell 2 _ rfl
  have c3 := RL.cell 3 _ rfl
  go_upto_region 4 with (go_at_call 35; refine hc.mono ?_; clear hc; rintro e w1 ⟨v1, rfl, O1, f1, t1⟩; obtain ⟨a1, p1, e1, -⟩ := O1.form; subst e1)
  obtain ⟨w2, hw2⟩ : ∃ w2, w1.alloc (.cells #[.slice a1 nl p1, .slice none 0 0, .int .u64 b, .int .u64 s] 30) = w2 := ⟨_, rfl⟩
  have T12 : Turn no w1 w2 := by rw [← hw2]; exact (Turn.refl no w1).alloc _
  have R2 : Row w2 w1.heap.size #[.slice a1 nl p1, .slice none 0 0, .int .u64 b, .int .u64 s] 30 := by rw [← hw2]; exact Row.new w1 _ 30
  try rw [hw2]
  clear hw2 c0 c1 c2 c3 b1 b2
  have T02 := t1.then_no T12
  have RL2 := RL.turn T02 (fun q => q)
  have RZ2 := RZ.turn T02 (fun q => q)
  have O2 := O1.turn_no T12
  have hs1 := t1.size
  have F1 : Shut (∀ g, (Value.slice a1 nl p1).ownBlock = some g → w.heap.size + 1 < g ∧ g < w1.heap.size) := fun g hg => by have := f1 g hg; exact ⟨by omega, O1.lt hg⟩
  generalize w1.heap.size = g6 at *
  have d1 := R2.cell 1 _ rfl
  have df := R2.frozen 1
  obtain ⟨w3, hw3⟩ : ∃ w3, w2.setCell ⟨g6, 1, none⟩ (.slice none 0 0) = w3 := ⟨_, rfl⟩
  have TG : Turn (fun q => q = g6) w2 w3 := by rw [← hw3]; exact (Turn.refl (fun q => q = g6) w2).setCell (p := ⟨g6, 1, none⟩) (fun _ => rfl) _
  have R3 : Row w3 g6 #[.slice a1 nl p1, .slice none 0 0, .int .u64 b, .int .u64 s] 30 := by rw [← hw3]; exact R2.set 1 _
  have RL3 := RL2.turn TG (fun e => by have e' : w.heap.size = g6 := e; omega)
  have RZ3 := RZ2.turn TG (fun e => by have e' : w.heap.size + 1 = g6 := e; omega)
  have O3 := O2.turn TG (fun g hg e => by have := F1.out g hg; have e' : g = g6 := e; omega)
  have T03 : Turn no w w3 := (HT0.out.then_no T02).trans TG (fun i hi e => by have e' : i = g6 := e; omega)
  go_upto_region 6 with fail
  try rw [hw3]
  clear hw3 d1 df TG R2 RL2 RZ2 O2 O1 f1 t1 T12 T02 RL RZ
  go_loopw [7] (fun x wr => x = .int .i64 0 ∧ wr = w3) (fun _ _ => 0)
  case atStart => exact ⟨rfl, rfl⟩
  case round =>
    obtain ⟨rfl, hwr⟩ := hrel
    rw [hwr]
    clear hwr
    have c1 := RL3.cell 1 _ rfl
    have TS := (Turn.refl (fun q => q = w.heap.size + 1) w3).setRow (w.heap.size + 1) #[.slice a1 nl p1, .slice none 0 0, .int .u64 b, .int .u64 s] (fun _ => rfl)
    have HEnd : Shut (OwnN (w3.setRow (w.heap.size + 1) #[.slice a1 nl p1, .slice none 0 0, .int .u64 b, .int .u64 s]) 50 5 (.slice a1 nl p1) nl AL ∧ (∀ g, (Value.slice a1 nl p1).ownBlock = some g → w.heap.size ≤ g) ∧ Turn no w (w3.setRow (w.heap.size + 1) #[.slice a1 nl p1, .slice none 0 0, .int .u64 b, .int .u64 s])) := shut ⟨O3.turn TS (fun g hg e => by have := F1.out g hg; have e' : g = w.heap.size + 1 := e; omega), fun g hg => by have := F1.out g hg; omega, T03.setRow _ _ (fun q => by omega)⟩
    have iL : (Tryz.prog.info? 30).map (·.size) = some (#[.slice a1 nl p1, .slice none 0 0, .int .u64 b, .int .u64 s] : Array Value).size := by kernel_rfl
    have oL : (#[.slice a1 nl p1, .slice none 0 0, .int .u64 b, .int .u64 s] : Array Value).all (·.oneCell') = true := by simp [Value.oneCell']
    go_upto_region 12 with fail
    clear c1 TS O3 T03 RL3 F1
    generalize hEA : (#[.slice a1 nl p1, .slice none 0 0, .int .u64 b, .int .u64 s] : Array Value) = EA at *
    generalize hZA : (#[.slice none 0 0, .slice none 0 0, .int .u64 0, .int .u64 0] : Array Value) = ZA at *
    have sZ : ZA.size = EA.size := by rw [← hZA, ← hEA]; rfl
    have hEA := shut hEA
    have hZA := shut hZA
    go_wp2_with (first | (guard_target =~ wpList _ _ _ ({ dst := _, op := Op.load 30 _, .. } :: _) _ _; refine wpList_load_row rfl 30 (.tmp 6) rfl g6 rfl 30 EA _ _ R3 Tryz.underlying30 rfl iL ?_) | (guard_target =~ wpList _ _ _ ({ dst := _, op := Op.store 30 _ _, .. } :: _) _ _; refine wpList_store_row rfl 30 (.tmp 4) (.tmp 47) rfl (w.heap.size + 1) EA rfl rfl 30 ZA RZ3 iL sZ oL ?_))
    refine bodyPost_ret (v := .tuple #[.agg EA, .int .i64 0]) ?_ rfl ⟨.slice a1 nl p1, by rw [← hEA.out], HEnd.out⟩
    exact results_cell_row_tmp (P := Tryz.prog) Tryz.results9 _ _ (w.heap.size + 1) 30 EA (0, 0) _ rfl (setRow_heap _ _ _ _ _ _ RZ3) Tryz.underlying30 rfl iL
end Go.Proofs.YtaoigopjfelgpaaGreatDoor

/- What Punish calls, of both. -/
namespace Go.Proofs.YtaoigopjfelgpaaGreatDoor
open Go.RowKit
set_option linter.unusedVariables false

/-- What is lost of an amount. -/
def lostN (a sl : Nat) : Nat := a / 1000 * sl + a % 1000 * sl / 1000
theorem lost_le {a sl : Nat} (h : sl ≤ 1000) : lostN a sl ≤ a := by
  unfold lostN
  have h1 : a / 1000 * sl ≤ a / 1000 * 1000 := Nat.mul_le_mul_left _ h
  have h2 : a % 1000 * sl / 1000 ≤ a % 1000 := by
    have : a % 1000 * sl ≤ a % 1000 * 1000 := Nat.mul_le_mul_left _ h
    omega
  omega
theorem lost_parts {a sl : Nat} (h : sl ≤ 1000) (ha : a ≤ 1152921504606846975) : a / 1000 * sl ≤ 1152921504606846975 ∧ a % 1000 * sl ≤ 999000 := by
  have h1 : a / 1000 * sl ≤ a / 1000 * 1000 := Nat.mul_le_mul_left _ h
  have h2 : a % 1000 * sl ≤ 999 * 1000 := Nat.mul_le_mul (by omega) h
  omega
theorem lost_val {a sl : Nat} (hs : sl ≤ 1000) (ha : a ≤ 1152921504606846975) : IntKind.u64.wrap (IntKind.u64.wrap (IntKind.u64.wrap ((a : Int) / 1000) * (sl : Int)) + IntKind.u64.wrap ((IntKind.u64.wrap ((a : Int) % 1000 * (sl : Int))).tdiv 1000)) = ((lostN a sl : Nat) : Int) := by
  obtain ⟨h1, h2⟩ := lost_parts hs ha
  have hl := lost_le (a := a) hs
  have q1 : IntKind.u64.wrap ((a : Int) / 1000) = ((a / 1000 : Nat) : Int) := by rw [IntKind.wrap_u64]; omega
  have q2 : IntKind.u64.wrap (((a / 1000 : Nat) : Int) * (sl : Int)) = ((a / 1000 * sl : Nat) : Int) := by
    rw [← Int.natCast_mul, IntKind.wrap_u64]; omega
  have q3 : (a : Int) % 1000 * (sl : Int) = ((a % 1000 * sl : Nat) : Int) := by rw [Int.natCast_mul]; rfl
  have q4 : IntKind.u64.wrap (((a % 1000 * sl : Nat) : Int)) = ((a % 1000 * sl : Nat) : Int) := by rw [IntKind.wrap_u64]; omega
  have q5 : (((a % 1000 * sl : Nat) : Int)).tdiv 1000 = ((a % 1000 * sl / 1000 : Nat) : Int) := by
    rw [Int.tdiv_eq_ediv_of_nonneg (by omega)]; omega
  have q6 : IntKind.u64.wrap ((a % 1000 * sl / 1000 : Nat) : Int) = ((a % 1000 * sl / 1000 : Nat) : Int) := by rw [IntKind.wrap_u64]; omega
  rw [q1, q2, q3, q4, q5, q6, IntKind.wrap_u64]
  unfold lostN at hl ⊢
  omega
set_option maxRecDepth 100000 in
theorem share32 (w : World) (a sl : Nat) (hs : sl ≤ 1000) (ha : a ≤ 1152921504606846975) : Calls Tryz.prog 32 #[.int .u64 a, .int .u64 sl] w fun e w' => e = .returned (.int .u64 (lostN a sl)) ∧ w' = w := by
  have HL := shut (lost_val hs ha)
  clear ha hs
  go_enter Tryz.func32, Tryz.ntmps32
  go_wp2_with fail
  go_ret
  exact ⟨congrArg (fun z => Ending.returned (Value.int .u64 z)) HL.out, rfl⟩
set_option maxRecDepth 100000 in
theorem part38 (w : World) (a sl : Nat) (hs : sl ≤ 1000) (ha : a ≤ 1152921504606846975) : Calls Tryz.prog 38 #[.int .u64 a, .int .u64 sl] w fun e w' => e = .returned (.int .u64 (lostN a sl)) ∧ w' = w := by
  have HL := shut (lost_val hs ha)
  clear ha hs
  go_enter Tryz.func38, Tryz.ntmps38
  go_wp2_with fail
  go_ret
  exact ⟨congrArg (fun z => Ending.returned (Value.int .u64 z)) HL.out, rfl⟩
set_option maxRecDepth 100000 in
/-- The closure: what is left of an amount; what is lost is burnt. -/
theorem left31 (w : World) (a sl b gp gn : Nat) (hs : sl ≤ 1000) (ha : a ≤ 1152921504606846975) (hb : b + lostN a sl ≤ 1152921504606846975) (cp : w.cell? ⟨gp, 2, none⟩ = some (.int .u64 sl)) (cn : w.cell? ⟨gn, 2, none⟩ = some (.int .u64 b)) (fn : w.frozen? ⟨gn, 2, none⟩ = false) :
    Calls Tryz.prog 31 #[.int .u64 a, .pointer (some ⟨gp, 0, none⟩), .pointer (some ⟨gn, 0, none⟩)] w fun e w' => e = .returned (.int .u64 ((a - lostN a sl : Nat) : Int)) ∧ w' = w.setCell ⟨gn, 2, none⟩ (.int .u64 ((b + lostN a sl : Nat) : Int)) := by
  have hc := share32 w a sl hs ha
  have hl := lost_le (a := a) hs
  have e1 : IntKind.u64.wrap ((b : Int) + (lostN a sl : Int)) = ((b + lostN a sl : Nat) : Int) := by rw [IntKind.wrap_u64]; omega
  have e2 : IntKind.u64.wrap ((a : Int) - (lostN a sl : Int)) = ((a - lostN a sl : Nat) : Int) := by rw [IntKind.wrap_u64]; omega
  generalize lostN a sl = L at *
  generalize hB : ((b + L : Nat) : Int) = B at *
  generalize hA : ((a - L : Nat) : Int) = A at *
  clear ha hs hb hl hB hA
  go_enter Tryz.func31, Tryz.ntmps31
  go_wp2_with (go_at_call 32; refine hc.mono ?_; clear hc; rintro e w' ⟨rfl, hw'⟩; rw [hw']; clear hw')
  go_ret
  exact ⟨rfl, rfl⟩
theorem delete33 (w : World) (f : Value) : Calls Tryz.prog 33 #[.slice none 0 0, f] w fun e w' => e = .returned (.slice none 0 0) ∧ w' = w := by
  have hi : Calls Tryz.prog 58 #[.slice none 0 0, f] w fun e w' => e = .returned (.int .i64 (-1)) ∧ w' = w := by
    go_enter Tryz.func58, Tryz.ntmps58
    go_wp2_with fail
    go_loopw [8] (fun x wr => x = .int .i64 0 ∧ wr = w) (fun _ _ => 0)
    case atStart => exact ⟨rfl, rfl⟩
    case round =>
      obtain ⟨rfl, hwr⟩ := hrel
      rw [hwr]
      clear hwr
      go_wp2_with fail
      go_ret
      exact ⟨rfl, rfl⟩
  go_enter Tryz.func33, Tryz.ntmps33
  go_wp2_with (go_at_call 58; refine hi.mono ?_; clear hi; rintro e w' ⟨rfl, hw'⟩; rw [hw']; clear hw')
  go_ret
  exact ⟨rfl, rfl⟩
theorem OwnN.setCell {w : World} {e : TypeId} {sz g n c : Nat} {xs : List Value} (h : OwnN w e sz (.slice (some ⟨g, 0, none⟩) n c) n xs) (j : Nat) (u : Value) (hj : j < xs.length) : OwnN (w.setCell ⟨g, j, none⟩ u) e sz (.slice (some ⟨g, 0, none⟩) n c) n (xs.set j u) := by
  refine ⟨by rw [List.length_set]; exact h.1, ?_⟩
  rcases h.2 with ⟨e1, _⟩ | ⟨g', cap', cur, e1, h0, hg, h1, h2, h3, h4⟩
  · cases e1
  · cases e1
    refine Or.inr ⟨g, c, cur.setIfInBounds j u, rfl, h0, heap_setCell_same w g j cur e u hg, h1, h2, by simpa using h3, ?_⟩
    rw [Array.toList_setIfInBounds, List.take_set, h4]
theorem acC_set (l : List Ac) : ∀ (c : Nat) (m : Ac) (b : Nat), l[c]? = some m → ((acC l).set (c * 5 + 2) (.int .u64 b)).set (c * 5 + 4) (.bool true) = acC (l.set c ⟨m.ad, m.bal, b, m.nonce, true⟩) := by
  induction l with
  | nil => intro c m b h; simp at h
  | cons x r ih =>
    intro c m b h
    cases c with
    | zero =>
      simp at h
      subst h
      simp [acC, List.set]
    | succ c =>
      have h := ih c m b (by simpa using h)
      rw [List.set_cons_succ]
      simp only [acC, List.flatMap_cons] at h ⊢
      rw [List.set_append_right _ _ (by simp; omega), List.set_append_right _ _ (by simp; omega), ← h]
      simp only [List.length_cons, List.length_nil]
      rw [show (c + 1) * 5 + 2 - (0 + 1 + 1 + 1 + 1 + 1) = c * 5 + 2 by omega, show (c + 1) * 5 + 4 - (0 + 1 + 1 + 1 + 1 + 1) = c * 5 + 4 by omega]
end Go.Proofs.YtaoigopjfelgpaaGreatDoor

/- Punish of the program, of a ledger without releases. -/
namespace Go.Proofs.YtaoigopjfelgpaaGreatDoor
open Go.RowKit
set_option linter.unusedVariables false

set_option maxRecDepth 100000 in
set_option maxHeartbeats 16000000 in
theorem copyOf30 (w : World) (va : Value) (l : List Ac) (ha : As w va l) (hl : l.length * 40 ≤ 140737488355328) (b s : Nat) : Calls Tryz.prog 30 #[.agg #[va, .slice none 0 0, .int .u64 b, .int .u64 s]] w fun e w' => ∃ v', e = .returned (.agg #[v', .slice none 0 0, .int .u64 b, .int .u64 s]) ∧ OwnN w' 50 5 v' l.length (acC l) ∧ (∀ g, v'.ownBlock = some g → w.heap.size ≤ g) ∧ Turn no w w' := by
  obtain ⟨w0, hw0⟩ : ∃ w0, ((w.alloc (.cells #[va, .slice none 0 0, .int .u64 b, .int .u64 s] 30)).alloc (.cells #[.slice none 0 0, .slice none 0 0, .int .u64 0, .int .u64 0] 30)) = w0 := ⟨_, rfl⟩
  have T0 : Turn no w w0 := by rw [← hw0]; exact ((Turn.refl no w).alloc _).alloc _
  have RL : Row w0 w.heap.size #[va, .slice none 0 0, .int .u64 b, .int .u64 s] 30 := by rw [← hw0]; exact (Row.new w _ 30).alloc _
  have RZ : Row w0 (w.heap.size + 1) #[.slice none 0 0, .slice none 0 0, .int .u64 0, .int .u64 0] 30 := by rw [← hw0]; exact Row.newAt _ _ _ _ (by simp)
  have hc := copied20 w0 va l (ha.turn_no T0) hl
  obtain ⟨ada, capa, eva, -⟩ := id ha
  have HT0 := shut T0
  have hs0 := T0.size
  have hlt := RZ.lt
  clear ha hl T0
  generalize l.length = nl at *
  generalize acC l = AL at *
  subst eva
  go_enter Tryz.func30, Tryz.ntmps30
  go_upto_region 1 with fail
  try rw [hw0]
  clear hw0
  have c0 := RL.cell 0 _ rfl
  go_upto_region 2 with (go_at_call 22; refine hc.mono ?_; clear hc; rintro e w1 ⟨v1, rfl, O1, f1, t1⟩; obtain ⟨a1, p1, e1, -⟩ := O1.form; subst e1; have RL1 := RL.turn t1 (fun q => q); have d0 := RL1.cell 0 _ rfl; have df := RL1.frozen 0)
  have RZ1 := RZ.turn t1 (fun q => q)
  obtain ⟨w2, hw2⟩ : ∃ w2, w1.setCell ⟨w.heap.size, 0, none⟩ (.slice a1 nl p1) = w2 := ⟨_, rfl⟩
  have TG : Turn (fun q => q = w.heap.size) w1 w2 := by rw [← hw2]; exact (Turn.refl (fun q => q = w.heap.size) w1).setCell (p := ⟨w.heap.size, 0, none⟩) (fun _ => rfl) _
  have R2 : Row w2 w.heap.size #[.slice a1 nl p1, .slice none 0 0, .int .u64 b, .int .u64 s] 30 := by rw [← hw2]; exact RL1.set 0 _
  have RZ2 := RZ1.turn TG (fun e => by have e' : w.heap.size + 1 = w.heap.size := e; omega)
  have O2 := O1.turn TG (fun g hg e => by have := f1 g hg; have e' : g = w.heap.size := e; omega)
  have T02 : Turn no w w2 := (HT0.out.then_no t1).trans TG (fun i hi e => by have e' : i = w.heap.size := e; omega)
  try rw [hw2]
  clear hw2 c0 d0 df RL RZ RL1 RZ1 O1 TG t1
  have d1 := R2.cell 1 _ rfl
  have df := R2.frozen 1
  go_upto_region 3 with (go_at_call 29; refine (relcopy29 _).mono ?_; rintro e w' ⟨rfl, hw'⟩; rw [hw']; clear hw')
  obtain ⟨w3, hw3⟩ : ∃ w3, w2.setCell ⟨w.heap.size, 1, none⟩ (.slice none 0 0) = w3 := ⟨_, rfl⟩
  have TG : Turn (fun q => q = w.heap.size) w2 w3 := by rw [← hw3]; exact (Turn.refl (fun q => q = w.heap.size) w2).setCell (p := ⟨w.heap.size, 1, none⟩) (fun _ => rfl) _
  have R3 : Row w3 w.heap.size #[.slice a1 nl p1, .slice none 0 0, .int .u64 b, .int .u64 s] 30 := by rw [← hw3]; exact R2.set 1 _
  have RZ3 := RZ2.turn TG (fun e => by have e' : w.heap.size + 1 = w.heap.size := e; omega)
  have O3 := O2.turn TG (fun g hg e => by have := f1 g hg; have e' : g = w.heap.size := e; omega)
  have T03 : Turn no w w3 := T02.trans TG (fun i hi e => by have e' : i = w.heap.size := e; omega)
  try rw [hw3]
  have TS := (Turn.refl (fun q => q = w.heap.size + 1) w3).setRow (w.heap.size + 1) #[.slice a1 nl p1, .slice none 0 0, .int .u64 b, .int .u64 s] (fun _ => rfl)
  have HEnd : Shut (OwnN (w3.setRow (w.heap.size + 1) #[.slice a1 nl p1, .slice none 0 0, .int .u64 b, .int .u64 s]) 50 5 (.slice a1 nl p1) nl AL ∧ (∀ g, (Value.slice a1 nl p1).ownBlock = some g → w.heap.size ≤ g) ∧ Turn no w (w3.setRow (w.heap.size + 1) #[.slice a1 nl p1, .slice none 0 0, .int .u64 b, .int .u64 s])) := shut ⟨O3.turn TS (fun g hg e => by have := f1 g hg; have e' : g = w.heap.size + 1 := e; omega), fun g hg => by have := f1 g hg; omega, T03.setRow _ _ (fun q => by omega)⟩
  have iL : (Tryz.prog.info? 30).map (·.size) = some (#[.slice a1 nl p1, .slice none 0 0, .int .u64 b, .int .u64 s] : Array Value).size := by kernel_rfl
  have oL : (#[.slice a1 nl p1, .slice none 0 0, .int .u64 b, .int .u64 s] : Array Value).all (·.oneCell') = true := by simp [Value.oneCell']
  clear hw3 d1 df TS O3 O2 T03 T02 R2 RZ2 f1 TG
  generalize hEA : (#[.slice a1 nl p1, .slice none 0 0, .int .u64 b, .int .u64 s] : Array Value) = EA at *
  generalize hZA : (#[.slice none 0 0, .slice none 0 0, .int .u64 0, .int .u64 0] : Array Value) = ZA at *
  have sZ : ZA.size = EA.size := by rw [← hZA, ← hEA]; rfl
  have hEA := shut hEA
  have hZA := shut hZA
  go_wp2_with (first | (guard_target =~ wpList _ _ _ ({ dst := _, op := Op.load 30 _, .. } :: _) _ _; refine wpList_load_row rfl 30 (.tmp 1) rfl w.heap.size rfl 30 EA _ _ R3 Tryz.underlying30 rfl iL ?_) | (guard_target =~ wpList _ _ _ ({ dst := _, op := Op.store 30 _ _, .. } :: _) _ _; refine wpList_store_row rfl 30 (.tmp 2) (.tmp 11) rfl (w.heap.size + 1) EA rfl rfl 30 ZA RZ3 iL sZ oL ?_))
  refine bodyPost_ret (v := .agg EA) ?_ rfl ⟨.slice a1 nl p1, by rw [← hEA.out], HEnd.out⟩
  exact results_cell_row (P := Tryz.prog) Tryz.results30 _ _ (w.heap.size + 1) 30 EA (0, 0) _ rfl (setRow_heap _ _ _ _ _ _ RZ3) Tryz.underlying30 rfl iL
end Go.Proofs.YtaoigopjfelgpaaGreatDoor

/- Punish of the program, of a ledger without releases. -/
namespace Go.Proofs.YtaoigopjfelgpaaGreatDoor
open Go.RowKit
set_option linter.unusedVariables false

/-- An account that was punished. -/
def punA (m : Ac) (sl : Nat) : Ac := ⟨m.ad, m.bal, m.bond - lostN m.bond sl, m.nonce, true⟩
theorem bld30z (w : World) : (Instr.build 30 #[]).run Tryz.prog w = .ok (.agg #[.slice none 0 0, .slice none 0 0, .int .u64 0, .int .u64 0]) w := by kernel_rfl
theorem slice_of {w : World} {e : TypeId} {sz n : Nat} {v : Value} {xs : List Value} (h : OwnN w e sz v n xs) (hn : 0 < n) : ∃ g c, v = .slice (some ⟨g, 0, none⟩) n c := by
  rcases h.2 with ⟨_, q⟩ | ⟨g, c, cur, e, _⟩
  · omega
  · exact ⟨g, c, e⟩
set_option maxRecDepth 100000 in
set_option maxHeartbeats 32000000 in
theorem pun8_ok (w : World) (va : Value) (l : List Ac) (ha : As w va l) (hA : Asc l) (hl : l.length ≤ 65536) (b s x h sl : Nat) (hbd : ∀ m ∈ l, b + m.bond ≤ 1152921504606846975) (hb : b ≤ 1152921504606846975) (h1 : 1 ≤ h) (h2 : h ≤ 1000) (P : Array Value) (hP : P[2]? = some (.int .u64 sl)) (hsl : sl ≤ 1000) (hx : hasB l x = true) :
    Calls Tryz.prog 8 #[.agg #[va, .slice none 0 0, .int .u64 b, .int .u64 s], .agg P, .int .u64 x, .int .u64 h] w fun e w' => ∃ v' c m, e = .returned (.tuple #[.agg #[v', .slice none 0 0, .int .u64 ((b + lostN m.bond sl : Nat) : Int), .int .u64 s], .int .i64 0]) ∧ l[c]? = some m ∧ m.ad = x ∧ OwnN w' 50 5 v' l.length (acC (l.set c (punA m sl))) ∧ (∀ g, v'.ownBlock = some g → w.heap.size ≤ g) ∧ Turn no w w' := by
  obtain ⟨w0, hw0⟩ : ∃ w0, ((w.alloc (.cells #[va, .slice none 0 0, .int .u64 b, .int .u64 s] 30)).alloc (.cells P 25)).alloc (.cells #[.slice none 0 0, .slice none 0 0, .int .u64 0, .int .u64 0] 30) = w0 := ⟨_, rfl⟩
  have T0 : Turn no w w0 := by rw [← hw0]; exact (((Turn.refl no w).alloc _).alloc _).alloc _
  have RL : Row w0 w.heap.size #[va, .slice none 0 0, .int .u64 b, .int .u64 s] 30 := by rw [← hw0]; exact ((Row.new w _ 30).alloc _).alloc _
  have RP : Row w0 (w.heap.size + 1) P 25 := by rw [← hw0]; exact (Row.newAt _ _ _ _ (by simp)).alloc _
  have RZ : Row w0 (w.heap.size + 2) #[.slice none 0 0, .slice none 0 0, .int .u64 0, .int .u64 0] 30 := by rw [← hw0]; exact Row.newAt _ _ _ _ (by simp)
  have hat := at56 w0 va l (ha.turn_no T0) hA hl x
  rw [hx] at hat
  have HCO : Shut (∀ W, Turn no w0 W → Calls Tryz.prog 30 #[.agg #[va, .slice none 0 0, .int .u64 b, .int .u64 s]] W fun e w' => ∃ v', e = .returned (.agg #[v', .slice none 0 0, .int .u64 b, .int .u64 s]) ∧ OwnN w' 50 5 v' l.length (acC l) ∧ (∀ g, v'.ownBlock = some g → W.heap.size ≤ g) ∧ Turn no W w') := fun W t => copyOf30 W va l (ha.turn_no (T0.then_no t)) (by omega) b s
  obtain ⟨ada, capa, eva, -⟩ := id ha
  have HT0 := shut T0
  have HAX := shut (And.intro hA hx)
  have HBD := shut hbd
  have hs0 := T0.size
  have hlt := RZ.lt
  have c0 := RL.cell 0 _ rfl
  have p2 := RP.cell 2 _ hP
  have k1 : ¬ (1000 : Int) < (sl : Int) := by omega
  clear ha T0 hl hA hx hbd
  obtain ⟨nl, hnl⟩ : ∃ n, Shut (l.length = n) := ⟨_, rfl⟩
  have hnl' := hnl.out
  rw [hnl'] at eva hat HCO ⊢
  clear hnl'
  subst eva
  go_enter Tryz.func8, Tryz.ntmps8
  go_upto_region 1 with fail
  try rw [hw0]
  clear hw0
  go_upto_region 3 with (go_at_call 25; refine (height25 _ h h1 h2).mono ?_; rintro e w' ⟨rfl, hw'⟩; rw [hw']; clear hw')
  clear p2 k1
  go_upto_region 6 with (go_at_call 28; refine hat.mono ?_; clear hat; rintro e w1 ⟨k, rfl, hk, hPk, t1⟩)
  obtain ⟨m, hm, hmx⟩ := has_at HAX.out.1 hPk HAX.out.2
  have hkn : k < nl := by have := (List.getElem?_eq_some_iff.1 hm).1; have := hnl.out; omega
  have RL1 := RL.turn t1 (fun q => q)
  have c0 := RL1.cell 0 _ rfl
  have c1 := RL1.cell 1 _ rfl
  have c2 := RL1.cell 2 _ rfl
  have c3 := RL1.cell 3 _ rfl
  have hc := HCO.out w1 t1
  go_upto_region 7 with (go_at_call 30; refine hc.mono ?_; clear hc; rintro e w2 ⟨v2, rfl, O2, f2, t2⟩; obtain ⟨gA, cA, eA⟩ := slice_of O2 (by omega); subst eA)
  have hs1 := t1.size
  have hs2 := t2.size
  have hgA := f2 gA rfl
  have hgl := O2.lt (g := gA) rfl
  obtain ⟨w3, hw3⟩ : ∃ w3, w2.alloc (.cells #[.slice (some ⟨gA, 0, none⟩) nl cA, .slice none 0 0, .int .u64 b, .int .u64 s] 30) = w3 := ⟨_, rfl⟩
  have T23 : Turn no w2 w3 := by rw [← hw3]; exact (Turn.refl no w2).alloc _
  have R3 : Row w3 w2.heap.size #[.slice (some ⟨gA, 0, none⟩) nl cA, .slice none 0 0, .int .u64 b, .int .u64 s] 30 := by rw [← hw3]; exact Row.new w2 _ 30
  have T03 := (t1.then_no t2).then_no T23
  have RP3 := RP.turn T03 (fun q => q)
  have RZ3 := RZ.turn T03 (fun q => q)
  have O3 := O2.turn_no T23
  try rw [hw3]
  clear hw3 c0 c1 c2 c3 T23 t1 t2 O2 f2 RP RZ RL RL1 HCO
  have hcA : nl ≤ cA := by
    obtain ⟨_, _, e, _, _, q, _⟩ := O3.form
    cases e
    exact q
  generalize w2.heap.size = g12 at *
  have d0 := R3.cell 0 _ rfl
  have hkn' : (k : Int) < (nl : Int) := by omega
  have hkc' : (k : Int) < (cA : Int) := by omega
  go_upto_region 9 with fail
  clear d0
  -- what is left of the bond
  have hbm := HBD.out m (List.mem_of_getElem? hm)
  have hlm := lost_le (a := m.bond) hsl
  have hat : (acC l)[k * 5 + 2]? = some (.int .u64 m.bond) := by have := acC_at l k m hm 2 (by omega); simpa using this
  have hlen := acC_len l
  have hklen : k * 5 + 4 < (acC l).length := by rw [hlen, hnl.out]; omega
  have q2 : w3.cell? ⟨gA, k * 5 + 2, none⟩ = some (.int .u64 m.bond) := by
    have := World.ownsRow.cells O3 (g := gA) rfl _ _ hat
    simpa [Addr.add_lit] using this
  have hcl := left31 w3 m.bond sl b (w.heap.size + 1) g12 hsl (by omega) (by omega) (RP3.cell 2 _ hP) (R3.cell 2 _ rfl) (R3.frozen 2)
  have hgs : gA ≠ g12 := by omega
  obtain ⟨w4, hw4⟩ : ∃ w4, w3.setCell ⟨g12, 2, none⟩ (.int .u64 ((b + lostN m.bond sl : Nat) : Int)) = w4 := ⟨_, rfl⟩
  rw [hw4] at hcl
  have TG : Turn (fun q => q = g12) w3 w4 := by rw [← hw4]; exact (Turn.refl (fun q => q = g12) w3).setCell (p := ⟨g12, 2, none⟩) (fun _ => rfl) _
  have R4 : Row w4 g12 #[.slice (some ⟨gA, 0, none⟩) nl cA, .slice none 0 0, .int .u64 ((b + lostN m.bond sl : Nat) : Int), .int .u64 s] 30 := by rw [← hw4]; exact R3.set 2 _
  have RZ4 := RZ3.turn TG (fun e => by have e' : w.heap.size + 2 = g12 := e; omega)
  have O4 := O3.turn TG (fun g hg e => by cases hg; exact hgs e)
  have T04 : Turn no w0 w4 := T03.trans TG (fun i hi e => by have e' : i = g12 := e; omega)
  have q4 : w4.cell? ⟨gA, k * 5 + 2, none⟩ = some (.int .u64 m.bond) := TG.keep q2 (fun e => hgs e)
  have qf : w4.frozen? ⟨gA, k * 5 + 2, none⟩ = false := by
    rcases O4.2 with ⟨e, _⟩ | ⟨g, c, cur, e, _, ho, _⟩
    · cases e
    · cases e; exact frozen_of_row w4 gA _ _ 50 ho
  obtain ⟨w5, hw5⟩ : ∃ w5, w4.setCell ⟨gA, k * 5 + 2, none⟩ (.int .u64 ((m.bond - lostN m.bond sl : Nat) : Int)) = w5 := ⟨_, rfl⟩
  have O5 := O4.setCell (k * 5 + 2) (.int .u64 ((m.bond - lostN m.bond sl : Nat) : Int)) (by omega)
  rw [hw5] at O5
  have TA : Turn (fun q => q = gA) w4 w5 := by rw [← hw5]; exact (Turn.refl (fun q => q = gA) w4).setCell (p := ⟨gA, k * 5 + 2, none⟩) (fun _ => rfl) _
  have R5 := R4.turn TA (fun e => hgs e.symm)
  have RZ5 := RZ4.turn TA (fun e => by have e' : w.heap.size + 2 = gA := e; omega)
  have T05 : Turn no w0 w5 := T04.trans TA (fun i hi e => by have e' : i = gA := e; omega)
  have q5 : w5.cell? ⟨gA, k * 5 + 4, none⟩ = some (.bool m.jail) := by
    have h4 : (acC l)[k * 5 + 4]? = some (.bool m.jail) := by have := acC_at l k m hm 4 (by omega); simpa using this
    have := World.ownsRow.cells O5 (g := gA) rfl (k * 5 + 4) (.bool m.jail) (by rw [List.getElem?_set_ne (by omega)]; exact h4)
    simpa [Addr.add_lit] using this
  have qf5 : w5.frozen? ⟨gA, k * 5 + 4, none⟩ = false := by
    rcases O5.2 with ⟨e, _⟩ | ⟨g, c, cur, e, _, ho, _⟩
    · cases e
    · cases e; exact frozen_of_row w5 gA _ _ 50 ho
  obtain ⟨w6, hw6⟩ : ∃ w6, w5.setCell ⟨gA, k * 5 + 4, none⟩ (.bool true) = w6 := ⟨_, rfl⟩
  have O6 := O5.setCell (k * 5 + 4) (.bool true) (by rw [List.length_set]; exact hklen)
  rw [hw6, acC_set l k m _ hm] at O6
  have TA6 : Turn (fun q => q = gA) w5 w6 := by rw [← hw6]; exact (Turn.refl (fun q => q = gA) w5).setCell (p := ⟨gA, k * 5 + 4, none⟩) (fun _ => rfl) _
  have R6 := R5.turn TA6 (fun e => hgs e.symm)
  have RZ6 := RZ5.turn TA6 (fun e => by have e' : w.heap.size + 2 = gA := e; omega)
  have T06 : Turn no w0 w6 := T05.trans TA6 (fun i hi e => by have e' : i = gA := e; omega)
  have HM : Shut (l[k]? = some m ∧ m.ad = x) := ⟨hm, hmx⟩
  have HGA : Shut (w.heap.size + 2 < gA) := by show _ < _; omega
  clear hbm hlm hat hlen hklen hb TG R3 RP3 RZ3 O3 T03 R4 RZ4 O4 T04 TA R5 RZ5 O5 T05 TA6 hm hmx hsl HBD
  generalize hBU : ((b + lostN m.bond sl : Nat) : Int) = BU at *
  have HBU : Shut (BU = ((b + lostN m.bond sl : Nat) : Int)) := hBU.symm
  clear hBU
  generalize ((m.bond - lostN m.bond sl : Nat) : Int) = BD at *
  go_upto_region 10 with (go_at_call 31; refine hcl.mono ?_; clear hcl; rintro e w' ⟨rfl, hw'⟩; rw [hw']; clear hw')
  try rw [hw5]
  clear hw5 q2 q4 qf hw4
  go_upto_region 11 with fail
  try rw [hw6]
  clear hw6 q5 qf5
  have d1 := R6.cell 1 _ rfl
  have df := R6.frozen 1
  go_upto_region 12 with fail
  clear d1 df
  go_loopw [58] (fun y wr => y = .int .i64 0 ∧ wr = w6) (fun _ _ => 0)
  case atStart => exact ⟨rfl, rfl⟩
  case round =>
    obtain ⟨rfl, hwr⟩ := hrel
    rw [hwr]
    clear hwr
    have d1 := R6.cell 1 _ rfl
    have df := R6.frozen 1
    go_upto_region 19 with (go_at_call 33; refine (delete33 _ _).mono ?_; rintro e w' ⟨rfl, hw'⟩; rw [hw']; clear hw')
    obtain ⟨w7, hw7⟩ : ∃ w7, w6.setCell ⟨g12, 1, none⟩ (.slice none 0 0) = w7 := ⟨_, rfl⟩
    have TG : Turn (fun q => q = g12) w6 w7 := by rw [← hw7]; exact (Turn.refl (fun q => q = g12) w6).setCell (p := ⟨g12, 1, none⟩) (fun _ => rfl) _
    have R7 : Row w7 g12 #[.slice (some ⟨gA, 0, none⟩) nl cA, .slice none 0 0, .int .u64 BU, .int .u64 s] 30 := by rw [← hw7]; exact R6.set 1 _
    have RZ7 := RZ6.turn TG (fun e => by have e' : w.heap.size + 2 = g12 := e; omega)
    have O7 := O6.turn TG (fun g hg e => by cases hg; exact hgs e)
    have T07 : Turn no w w7 := (HT0.out.then_no T06).trans TG (fun i hi e => by have e' : i = g12 := e; omega)
    try rw [hw7]
    have TS := (Turn.refl (fun q => q = w.heap.size + 2) w7).setRow (w.heap.size + 2) #[.slice (some ⟨gA, 0, none⟩) nl cA, .slice none 0 0, .int .u64 BU, .int .u64 s] (fun _ => rfl)
    have HEnd : Shut (OwnN (w7.setRow (w.heap.size + 2) #[.slice (some ⟨gA, 0, none⟩) nl cA, .slice none 0 0, .int .u64 BU, .int .u64 s]) 50 5 (.slice (some ⟨gA, 0, none⟩) nl cA) nl (acC (l.set k ⟨m.ad, m.bal, m.bond - lostN m.bond sl, m.nonce, true⟩)) ∧ (∀ g, (Value.slice (some ⟨gA, 0, none⟩) nl cA).ownBlock = some g → w.heap.size ≤ g) ∧ Turn no w (w7.setRow (w.heap.size + 2) #[.slice (some ⟨gA, 0, none⟩) nl cA, .slice none 0 0, .int .u64 BU, .int .u64 s])) := shut ⟨O7.turn TS (fun g hg e => by cases hg; have e' : gA = w.heap.size + 2 := e; have := HGA.out; omega), fun g hg => by cases hg; have := HGA.out; show w.heap.size ≤ gA; omega, T07.setRow _ _ (fun q => by omega)⟩
    have iL : (Tryz.prog.info? 30).map (·.size) = some (#[.slice (some ⟨gA, 0, none⟩) nl cA, .slice none 0 0, .int .u64 BU, .int .u64 s] : Array Value).size := by kernel_rfl
    have oL : (#[.slice (some ⟨gA, 0, none⟩) nl cA, .slice none 0 0, .int .u64 BU, .int .u64 s] : Array Value).all (·.oneCell') = true := by simp [Value.oneCell']
    clear hw7 d1 df TG T07 O7 TS R6 RZ6 T06 O6
    generalize hEA : (#[.slice (some ⟨gA, 0, none⟩) nl cA, .slice none 0 0, .int .u64 BU, .int .u64 s] : Array Value) = EA at *
    generalize hZA : (#[.slice none 0 0, .slice none 0 0, .int .u64 0, .int .u64 0] : Array Value) = ZA at *
    have sZ : ZA.size = EA.size := by rw [← hZA, ← hEA]; rfl
    have hEA := shut hEA
    have hZA := shut hZA
    go_wp2_with (first | (guard_target =~ wpList _ _ _ ({ dst := _, op := Op.load 30 _, .. } :: _) _ _; refine wpList_load_row rfl 30 (.tmp 12) rfl g12 rfl 30 EA _ _ R7 Tryz.underlying30 rfl iL ?_) | (guard_target =~ wpList _ _ _ ({ dst := _, op := Op.store 30 _ _, .. } :: _) _ _; refine wpList_store_row rfl 30 (.tmp 8) (.tmp 94) rfl (w.heap.size + 2) EA rfl rfl 30 ZA RZ7 iL sZ oL ?_))
    refine bodyPost_ret (v := .tuple #[.agg EA, .int .i64 0]) ?_ rfl ⟨.slice (some ⟨gA, 0, none⟩) nl cA, k, m, by rw [← hEA.out, HBU.out], HM.out.1, HM.out.2, HEnd.out⟩
    exact results_cell_row_tmp (P := Tryz.prog) Tryz.results8 _ _ (w.heap.size + 2) 30 EA (0, 0) _ rfl (setRow_heap _ _ _ _ _ _ RZ7) Tryz.underlying30 rfl iL
end Go.Proofs.YtaoigopjfelgpaaGreatDoor

/- Punish where it is refused, of both. -/
namespace Go.Proofs.YtaoigopjfelgpaaGreatDoor
open Go.RowKit
set_option linter.unusedVariables false

set_option maxRecDepth 100000 in
set_option maxHeartbeats 16000000 in
theorem pun8_arg (w : World) (va : Value) (l : List Ac) (ha : As w va l) (b s x h sl : Nat) (h1 : 1 ≤ h) (h2 : h ≤ 1000) (P : Array Value) (hP : P[2]? = some (.int .u64 sl)) (hsl : ¬ sl ≤ 1000) :
    Calls Tryz.prog 8 #[.agg #[va, .slice none 0 0, .int .u64 b, .int .u64 s], .agg P, .int .u64 x, .int .u64 h] w fun e w' => e = .returned (.tuple #[.agg #[.slice none 0 0, .slice none 0 0, .int .u64 0, .int .u64 0], .int .i64 2]) ∧ Turn no w w' := by
  obtain ⟨w0, hw0⟩ : ∃ w0, ((w.alloc (.cells #[va, .slice none 0 0, .int .u64 b, .int .u64 s] 30)).alloc (.cells P 25)).alloc (.cells #[.slice none 0 0, .slice none 0 0, .int .u64 0, .int .u64 0] 30) = w0 := ⟨_, rfl⟩
  have T0 : Turn no w w0 := by rw [← hw0]; exact (((Turn.refl no w).alloc _).alloc _).alloc _
  have RL : Row w0 w.heap.size #[va, .slice none 0 0, .int .u64 b, .int .u64 s] 30 := by rw [← hw0]; exact ((Row.new w _ 30).alloc _).alloc _
  have RP : Row w0 (w.heap.size + 1) P 25 := by rw [← hw0]; exact (Row.newAt _ _ _ _ (by simp)).alloc _
  have RZ : Row w0 (w.heap.size + 2) #[.slice none 0 0, .slice none 0 0, .int .u64 0, .int .u64 0] 30 := by rw [← hw0]; exact Row.newAt _ _ _ _ (by simp)
  have iZ : (Tryz.prog.info? 30).map (·.size) = some (#[.slice none 0 0, .slice none 0 0, .int .u64 0, .int .u64 0] : Array Value).size := by kernel_rfl
  have oZ : (#[.slice none 0 0, .slice none 0 0, .int .u64 0, .int .u64 0] : Array Value).all (·.oneCell') = true := by simp [Value.oneCell']
  have hz : ∀ W, (zeroValue 30).run Tryz.prog W = .ok (.agg #[.slice none 0 0, .slice none 0 0, .int .u64 0, .int .u64 0]) W := fun W => by kernel_rfl
  have hbd := shut bld30z
  obtain ⟨ada, capa, eva, -⟩ := id ha
  have HT0 := shut T0
  have p2 := RP.cell 2 _ hP
  have k1 : (1000 : Int) < (sl : Int) := by omega
  have hlt := RZ.lt
  clear ha T0 hsl RL
  generalize hZA : (#[.slice none 0 0, .slice none 0 0, .int .u64 0, .int .u64 0] : Array Value) = ZA at *
  clear hZA
  subst eva
  generalize l.length = nl at *
  go_enter Tryz.func8, Tryz.ntmps8
  go_upto_region 1 with fail
  try rw [hw0]
  clear hw0
  go_wp2_with (first | (go_at_call 25; refine (height25 _ h h1 h2).mono ?_; rintro e w' ⟨rfl, hw'⟩; rw [hw']; clear hw') | (guard_target =~ wpList _ _ _ ({ dst := _, op := Op.build 30 _, .. } :: _) _ _; refine wpList_buildG (by kernel_rfl) 30 rfl _ (hbd.out _) ?_) | (guard_target =~ wpList _ _ _ ({ dst := _, op := Op.store 30 _ _, .. } :: _) _ _; refine wpList_store_row rfl 30 (.tmp 8) (.tmp 25) rfl (w.heap.size + 2) ZA rfl rfl 30 ZA RZ iZ rfl oZ ?_))
  refine bodyPost_ret (v := .tuple #[.agg ZA, .int .i64 2]) ?_ rfl ⟨rfl, HT0.out.setRow _ _ (fun q => by omega)⟩
  exact results_cell_row_tmp (P := Tryz.prog) Tryz.results8 _ _ (w.heap.size + 2) 30 ZA (0, 0) _ rfl (setRow_heap _ _ _ _ _ _ RZ) Tryz.underlying30 rfl iZ
set_option maxRecDepth 100000 in
set_option maxHeartbeats 16000000 in
theorem pun8_none (w : World) (va : Value) (l : List Ac) (ha : As w va l) (hA : Asc l) (hl : l.length ≤ 65536) (b s x h sl : Nat) (h1 : 1 ≤ h) (h2 : h ≤ 1000) (P : Array Value) (hP : P[2]? = some (.int .u64 sl)) (hsl : sl ≤ 1000) (hx : hasB l x = false) :
    Calls Tryz.prog 8 #[.agg #[va, .slice none 0 0, .int .u64 b, .int .u64 s], .agg P, .int .u64 x, .int .u64 h] w fun e w' => e = .returned (.tuple #[.agg #[.slice none 0 0, .slice none 0 0, .int .u64 0, .int .u64 0], .int .i64 85]) ∧ Turn no w w' := by
  obtain ⟨w0, hw0⟩ : ∃ w0, ((w.alloc (.cells #[va, .slice none 0 0, .int .u64 b, .int .u64 s] 30)).alloc (.cells P 25)).alloc (.cells #[.slice none 0 0, .slice none 0 0, .int .u64 0, .int .u64 0] 30) = w0 := ⟨_, rfl⟩
  have T0 : Turn no w w0 := by rw [← hw0]; exact (((Turn.refl no w).alloc _).alloc _).alloc _
  have RL : Row w0 w.heap.size #[va, .slice none 0 0, .int .u64 b, .int .u64 s] 30 := by rw [← hw0]; exact ((Row.new w _ 30).alloc _).alloc _
  have RP : Row w0 (w.heap.size + 1) P 25 := by rw [← hw0]; exact (Row.newAt _ _ _ _ (by simp)).alloc _
  have RZ : Row w0 (w.heap.size + 2) #[.slice none 0 0, .slice none 0 0, .int .u64 0, .int .u64 0] 30 := by rw [← hw0]; exact Row.newAt _ _ _ _ (by simp)
  have iZ : (Tryz.prog.info? 30).map (·.size) = some (#[.slice none 0 0, .slice none 0 0, .int .u64 0, .int .u64 0] : Array Value).size := by kernel_rfl
  have oZ : (#[.slice none 0 0, .slice none 0 0, .int .u64 0, .int .u64 0] : Array Value).all (·.oneCell') = true := by simp [Value.oneCell']
  have hz : ∀ W, (zeroValue 30).run Tryz.prog W = .ok (.agg #[.slice none 0 0, .slice none 0 0, .int .u64 0, .int .u64 0]) W := fun W => by kernel_rfl
  have hbd := shut bld30z
  obtain ⟨ada, capa, eva, -⟩ := id ha
  have HT0 := shut T0
  have p2 := RP.cell 2 _ hP
  have k1 : ¬ (1000 : Int) < (sl : Int) := by omega
  have hat := at56 w0 va l (ha.turn_no T0) hA hl x
  rw [hx] at hat
  have c0 := RL.cell 0 _ rfl
  have hlt := RZ.lt
  clear ha T0 hsl hA hl hx RL
  generalize hZA : (#[.slice none 0 0, .slice none 0 0, .int .u64 0, .int .u64 0] : Array Value) = ZA at *
  clear hZA
  subst eva
  generalize l.length = nl at *
  go_enter Tryz.func8, Tryz.ntmps8
  go_upto_region 1 with fail
  try rw [hw0]
  clear hw0
  go_wp2_with (first | (go_at_call 25; refine (height25 _ h h1 h2).mono ?_; rintro e w' ⟨rfl, hw'⟩; rw [hw']; clear hw') | (go_at_call 28; refine hat.mono ?_; clear hat; rintro e w1 ⟨k, rfl, hk, hPk, t1⟩; have RZ1 := RZ.turn t1 (fun q => q)) | (guard_target =~ wpList _ _ _ ({ dst := _, op := Op.build 30 _, .. } :: _) _ _; refine wpList_buildG (by kernel_rfl) 30 rfl _ (hbd.out _) ?_) | (guard_target =~ wpList _ _ _ ({ dst := _, op := Op.store 30 _ _, .. } :: _) _ _; refine wpList_store_row rfl 30 (.tmp 8) (.tmp 35) rfl (w.heap.size + 2) ZA rfl rfl 30 ZA RZ1 iZ rfl oZ ?_))
  refine bodyPost_ret (v := .tuple #[.agg ZA, .int .i64 85]) ?_ rfl ⟨rfl, (HT0.out.then_no t1).setRow _ _ (fun q => by omega)⟩
  exact results_cell_row_tmp (P := Tryz.prog) Tryz.results8 _ _ (w.heap.size + 2) 30 ZA (0, 0) _ rfl (setRow_heap _ _ _ _ _ _ RZ1) Tryz.underlying30 rfl iZ
end Go.Proofs.YtaoigopjfelgpaaGreatDoor

/- The document's Punish. -/
namespace Go.Proofs.YtaoigopjfelgpaaGreatDoor
open Go.RowKit
set_option linter.unusedVariables false

theorem place37 (w : World) (va vr : Value) (l : List Ac) (ha : As w va l) (hA : Asc l) (hpos : ∀ m ∈ l, 0 < m.ad) (b s : Nat) (x : Nat) : Calls Tryz.prog 37 #[.agg #[va, vr, .int .u64 b, .int .u64 s], .int .u64 x] w fun e w' => ∃ k : Int, e = .returned (.int .i64 k) ∧ ((∃ (c : Nat) (m : Ac), k = c ∧ l[c]? = some m ∧ m.ad = x ∧ hasB l x = true) ∨ (k = -1 ∧ hasB l x = false)) ∧ Turn no w w' := (place32 w va vr l ha b s x).mono (by
  rintro e w' ⟨k, h1, h2, h3⟩
  have nh : ∀ {x : Nat}, (∀ m ∈ l, m.ad ≠ x) → hasB l x = false := fun h => by
    cases hb : hasB l _ with
    | false => rfl
    | true =>
      obtain ⟨m, hm, e⟩ := List.any_eq_true.1 hb
      exact absurd (by simpa using e) (h m hm)
  refine ⟨k, h1, ?_, h3⟩
  rcases h2 with ⟨rfl, rfl⟩ | ⟨_, ⟨rfl, q⟩ | ⟨j, m, rfl, hj, hm, _⟩⟩
  · exact .inr ⟨rfl, nh (fun m hm e => by have := hpos m hm; omega)⟩
  · exact .inr ⟨rfl, nh q⟩
  · exact .inl ⟨j, m, rfl, hj, hm, List.any_eq_true.2 ⟨m, List.mem_of_getElem? hj, by simpa using hm⟩⟩)
set_option maxRecDepth 100000 in
set_option maxHeartbeats 16000000 in
theorem rpun10_arg (w : World) (va : Value) (l : List Ac) (ha : As w va l) (b s x h sl : Nat) (h1 : 1 ≤ h) (h2 : h ≤ 1000) (P : Array Value) (hP : P[2]? = some (.int .u64 sl)) (hsl : ¬ sl ≤ 1000) :
    Calls Tryz.prog 10 #[.agg #[va, .slice none 0 0, .int .u64 b, .int .u64 s], .agg P, .int .u64 x, .int .u64 h] w fun e w' => e = .returned (.tuple #[.agg #[.slice none 0 0, .slice none 0 0, .int .u64 0, .int .u64 0], .int .i64 2]) ∧ Turn no w w' := by
  obtain ⟨w0, hw0⟩ : ∃ w0, ((w.alloc (.cells #[va, .slice none 0 0, .int .u64 b, .int .u64 s] 30)).alloc (.cells P 25)).alloc (.cells #[.slice none 0 0, .slice none 0 0, .int .u64 0, .int .u64 0] 30) = w0 := ⟨_, rfl⟩
  have T0 : Turn no w w0 := by rw [← hw0]; exact (((Turn.refl no w).alloc _).alloc _).alloc _
  have RL : Row w0 w.heap.size #[va, .slice none 0 0, .int .u64 b, .int .u64 s] 30 := by rw [← hw0]; exact ((Row.new w _ 30).alloc _).alloc _
  have RP : Row w0 (w.heap.size + 1) P 25 := by rw [← hw0]; exact (Row.newAt _ _ _ _ (by simp)).alloc _
  have RZ : Row w0 (w.heap.size + 2) #[.slice none 0 0, .slice none 0 0, .int .u64 0, .int .u64 0] 30 := by rw [← hw0]; exact Row.newAt _ _ _ _ (by simp)
  have iZ : (Tryz.prog.info? 30).map (·.size) = some (#[.slice none 0 0, .slice none 0 0, .int .u64 0, .int .u64 0] : Array Value).size := by kernel_rfl
  have oZ : (#[.slice none 0 0, .slice none 0 0, .int .u64 0, .int .u64 0] : Array Value).all (·.oneCell') = true := by simp [Value.oneCell']
  have hz : ∀ W, (zeroValue 30).run Tryz.prog W = .ok (.agg #[.slice none 0 0, .slice none 0 0, .int .u64 0, .int .u64 0]) W := fun W => by kernel_rfl
  have hbd := shut bld30z
  obtain ⟨ada, capa, eva, -⟩ := id ha
  have HT0 := shut T0
  have p2 := RP.cell 2 _ hP
  have k1 : (1000 : Int) < (sl : Int) := by omega
  have b1 : ((h : Int) == 0) = false := by simp; omega
  have b2 : ¬ (1099511627776 : Int) < (h : Int) := by omega
  have hlt := RZ.lt
  clear ha T0 hsl RL h1 h2
  generalize hZA : (#[.slice none 0 0, .slice none 0 0, .int .u64 0, .int .u64 0] : Array Value) = ZA at *
  clear hZA
  subst eva
  generalize l.length = nl at *
  go_enter Tryz.func10, Tryz.ntmps10
  go_upto_region 1 with fail
  try rw [hw0]
  clear hw0
  go_wp2_with (first | (guard_target =~ wpList _ _ _ ({ dst := _, op := Op.build 30 _, .. } :: _) _ _; refine wpList_buildG (by kernel_rfl) 30 rfl _ (hbd.out _) ?_) | (guard_target =~ wpList _ _ _ ({ dst := _, op := Op.store 30 _ _, .. } :: _) _ _; refine wpList_store_row rfl 30 (.tmp 8) (.tmp 27) rfl (w.heap.size + 2) ZA rfl rfl 30 ZA RZ iZ rfl oZ ?_))
  refine bodyPost_ret (v := .tuple #[.agg ZA, .int .i64 2]) ?_ rfl ⟨rfl, HT0.out.setRow _ _ (fun q => by omega)⟩
  exact results_cell_row_tmp (P := Tryz.prog) Tryz.results10 _ _ (w.heap.size + 2) 30 ZA (0, 0) _ rfl (setRow_heap _ _ _ _ _ _ RZ) Tryz.underlying30 rfl iZ
set_option maxRecDepth 100000 in
set_option maxHeartbeats 16000000 in
theorem rpun10_none (w : World) (va : Value) (l : List Ac) (ha : As w va l) (hA : Asc l) (hpos : ∀ m ∈ l, 0 < m.ad) (b s x h sl : Nat) (h1 : 1 ≤ h) (h2 : h ≤ 1000) (P : Array Value) (hP : P[2]? = some (.int .u64 sl)) (hsl : sl ≤ 1000) (hx : hasB l x = false) :
    Calls Tryz.prog 10 #[.agg #[va, .slice none 0 0, .int .u64 b, .int .u64 s], .agg P, .int .u64 x, .int .u64 h] w fun e w' => e = .returned (.tuple #[.agg #[.slice none 0 0, .slice none 0 0, .int .u64 0, .int .u64 0], .int .i64 85]) ∧ Turn no w w' := by
  obtain ⟨w0, hw0⟩ : ∃ w0, ((w.alloc (.cells #[va, .slice none 0 0, .int .u64 b, .int .u64 s] 30)).alloc (.cells P 25)).alloc (.cells #[.slice none 0 0, .slice none 0 0, .int .u64 0, .int .u64 0] 30) = w0 := ⟨_, rfl⟩
  have T0 : Turn no w w0 := by rw [← hw0]; exact (((Turn.refl no w).alloc _).alloc _).alloc _
  have RL : Row w0 w.heap.size #[va, .slice none 0 0, .int .u64 b, .int .u64 s] 30 := by rw [← hw0]; exact ((Row.new w _ 30).alloc _).alloc _
  have RP : Row w0 (w.heap.size + 1) P 25 := by rw [← hw0]; exact (Row.newAt _ _ _ _ (by simp)).alloc _
  have RZ : Row w0 (w.heap.size + 2) #[.slice none 0 0, .slice none 0 0, .int .u64 0, .int .u64 0] 30 := by rw [← hw0]; exact Row.newAt _ _ _ _ (by simp)
  have iZ : (Tryz.prog.info? 30).map (·.size) = some (#[.slice none 0 0, .slice none 0 0, .int .u64 0, .int .u64 0] : Array Value).size := by kernel_rfl
  have oZ : (#[.slice none 0 0, .slice none 0 0, .int .u64 0, .int .u64 0] : Array Value).all (·.oneCell') = true := by simp [Value.oneCell']
  have hz : ∀ W, (zeroValue 30).run Tryz.prog W = .ok (.agg #[.slice none 0 0, .slice none 0 0, .int .u64 0, .int .u64 0]) W := fun W => by kernel_rfl
  have hbd := shut bld30z
  obtain ⟨ada, capa, eva, -⟩ := id ha
  have HT0 := shut T0
  have p2 := RP.cell 2 _ hP
  have k1 : ¬ (1000 : Int) < (sl : Int) := by omega
  have b1 : ((h : Int) == 0) = false := by simp; omega
  have b2 : ¬ (1099511627776 : Int) < (h : Int) := by omega
  have hc := place37 w0 va (.slice none 0 0) l (ha.turn_no T0) hA hpos b s x
  have c0 := RL.cell 0 _ rfl
  have c1 := RL.cell 1 _ rfl
  have c2 := RL.cell 2 _ rfl
  have c3 := RL.cell 3 _ rfl
  have hlt := RZ.lt
  have HXN := shut hx
  clear ha T0 hsl hA hpos RL h1 h2 hx
  generalize hZA : (#[.slice none 0 0, .slice none 0 0, .int .u64 0, .int .u64 0] : Array Value) = ZA at *
  clear hZA
  subst eva
  generalize l.length = nl at *
  go_enter Tryz.func10, Tryz.ntmps10
  go_upto_region 1 with fail
  try rw [hw0]
  clear hw0
  go_wp2_with (first | (go_at_call 37; refine hc.mono ?_; clear hc; rintro e w1 ⟨k, rfl, hk, t1⟩; have RZ1 := RZ.turn t1 (fun q => q); have ek : k = -1 := (by rcases hk with ⟨_, _, _, _, _, q⟩ | ⟨q, _⟩; exact absurd (HXN.out.symm.trans q) (by decide); exact q); subst ek; clear hk) | (guard_target =~ wpList _ _ _ ({ dst := _, op := Op.build 30 _, .. } :: _) _ _; refine wpList_buildG (by kernel_rfl) 30 rfl _ (hbd.out _) ?_) | (guard_target =~ wpList _ _ _ ({ dst := _, op := Op.store 30 _ _, .. } :: _) _ _; refine wpList_store_row rfl 30 (.tmp 8) (.tmp 33) rfl (w.heap.size + 2) ZA rfl rfl 30 ZA RZ1 iZ rfl oZ ?_))
  refine bodyPost_ret (v := .tuple #[.agg ZA, .int .i64 85]) ?_ rfl ⟨rfl, (HT0.out.then_no t1).setRow _ _ (fun q => by omega)⟩
  exact results_cell_row_tmp (P := Tryz.prog) Tryz.results10 _ _ (w.heap.size + 2) 30 ZA (0, 0) _ rfl (setRow_heap _ _ _ _ _ _ RZ1) Tryz.underlying30 rfl iZ
end Go.Proofs.YtaoigopjfelgpaaGreatDoor

/- The document's Punish where it is let. -/
namespace Go.Proofs.YtaoigopjfelgpaaGreatDoor
open Go.RowKit
set_option linter.unusedVariables false

set_option maxRecDepth 100000 in
set_option maxHeartbeats 32000000 in
theorem rpun10_ok (w : World) (va : Value) (l : List Ac) (ha : As w va l) (hA : Asc l) (hpos : ∀ m ∈ l, 0 < m.ad) (hl : l.length ≤ 65536) (b s x h sl : Nat) (hbd : ∀ m ∈ l, b + m.bond ≤ 1152921504606846975) (hb : b ≤ 1152921504606846975) (h1 : 1 ≤ h) (h2 : h ≤ 1000) (P : Array Value) (hP : P[2]? = some (.int .u64 sl)) (hsl : sl ≤ 1000) (hx : hasB l x = true) :
    Calls Tryz.prog 10 #[.agg #[va, .slice none 0 0, .int .u64 b, .int .u64 s], .agg P, .int .u64 x, .int .u64 h] w fun e w' => ∃ v' c m, e = .returned (.tuple #[.agg #[v', .slice none 0 0, .int .u64 ((b + lostN m.bond sl : Nat) : Int), .int .u64 s], .int .i64 0]) ∧ l[c]? = some m ∧ m.ad = x ∧ OwnN w' 50 5 v' l.length (acC (l.set c (punA m sl))) ∧ (∀ g, v'.ownBlock = some g → w.heap.size ≤ g) ∧ Turn no w w' := by
  obtain ⟨w0, hw0⟩ : ∃ w0, ((w.alloc (.cells #[va, .slice none 0 0, .int .u64 b, .int .u64 s] 30)).alloc (.cells P 25)).alloc (.cells #[.slice none 0 0, .slice none 0 0, .int .u64 0, .int .u64 0] 30) = w0 := ⟨_, rfl⟩
  have T0 : Turn no w w0 := by rw [← hw0]; exact (((Turn.refl no w).alloc _).alloc _).alloc _
  have RL : Row w0 w.heap.size #[va, .slice none 0 0, .int .u64 b, .int .u64 s] 30 := by rw [← hw0]; exact ((Row.new w _ 30).alloc _).alloc _
  have RP : Row w0 (w.heap.size + 1) P 25 := by rw [← hw0]; exact (Row.newAt _ _ _ _ (by simp)).alloc _
  have RZ : Row w0 (w.heap.size + 2) #[.slice none 0 0, .slice none 0 0, .int .u64 0, .int .u64 0] 30 := by rw [← hw0]; exact Row.newAt _ _ _ _ (by simp)
  have hpl := place37 w0 va (.slice none 0 0) l (ha.turn_no T0) hA hpos b s x
  have HCO : Shut (∀ W, Turn no w0 W → Calls Tryz.prog 35 #[.agg #[va, .slice none 0 0, .int .u64 b, .int .u64 s]] W fun e w' => ∃ v', e = .returned (.agg #[v', .slice none 0 0, .int .u64 b, .int .u64 s]) ∧ OwnN w' 50 5 v' l.length (acC l) ∧ (∀ g, v'.ownBlock = some g → W.heap.size ≤ g) ∧ Turn no W w') := fun W t => copy35 W va l (ha.turn_no (T0.then_no t)) (by omega) b s
  obtain ⟨ada, capa, eva, -⟩ := id ha
  have HT0 := shut T0
  have HXN := shut hx
  have HBD := shut hbd
  have hs0 := T0.size
  have hlt := RZ.lt
  have c0 := RL.cell 0 _ rfl
  have c1 := RL.cell 1 _ rfl
  have c2 := RL.cell 2 _ rfl
  have c3 := RL.cell 3 _ rfl
  have p2 := RP.cell 2 _ hP
  have k1 : ¬ (1000 : Int) < (sl : Int) := by omega
  have b1 : ((h : Int) == 0) = false := by simp; omega
  have b2 : ¬ (1099511627776 : Int) < (h : Int) := by omega
  clear ha T0 hl hA hx hbd hpos h1 h2
  obtain ⟨nl, hnl⟩ : ∃ n, Shut (l.length = n) := ⟨_, rfl⟩
  have hnl' := hnl.out
  rw [hnl'] at eva HCO ⊢
  clear hnl'
  subst eva
  go_enter Tryz.func10, Tryz.ntmps10
  go_upto_region 1 with fail
  try rw [hw0]
  clear hw0
  go_upto_region 4 with (go_at_call 37; refine hpl.mono ?_; clear hpl; rintro e w1 ⟨kk, rfl, hk, t1⟩)
  clear p2 k1 b1 b2
  obtain ⟨k, m, ek, hm, hmx⟩ : ∃ (k : Nat) (m : Ac), kk = k ∧ l[k]? = some m ∧ m.ad = x := by
    rcases hk with ⟨c, m, e, q1, q2, _⟩ | ⟨_, q⟩
    · exact ⟨c, m, e, q1, q2⟩
    · exact absurd (HXN.out.symm.trans q) (by decide)
  subst ek
  clear hk
  have hkn : k < nl := by have := (List.getElem?_eq_some_iff.1 hm).1; have := hnl.out; omega
  have hk0 : ¬ (k : Int) < 0 := by omega
  have RL1 := RL.turn t1 (fun q => q)
  have c0 := RL1.cell 0 _ rfl
  have c1 := RL1.cell 1 _ rfl
  have c2 := RL1.cell 2 _ rfl
  have c3 := RL1.cell 3 _ rfl
  have hc := HCO.out w1 t1
  go_upto_region 7 with (go_at_call 35; refine hc.mono ?_; clear hc; rintro e w2 ⟨v2, rfl, O2, f2, t2⟩; obtain ⟨gA, cA, eA⟩ := slice_of O2 (by omega); subst eA)
  have hs1 := t1.size
  have hs2 := t2.size
  have hgA := f2 gA rfl
  have hgl := O2.lt (g := gA) rfl
  obtain ⟨w3, hw3⟩ : ∃ w3, w2.alloc (.cells #[.slice (some ⟨gA, 0, none⟩) nl cA, .slice none 0 0, .int .u64 b, .int .u64 s] 30) = w3 := ⟨_, rfl⟩
  have T23 : Turn no w2 w3 := by rw [← hw3]; exact (Turn.refl no w2).alloc _
  have R3 : Row w3 w2.heap.size #[.slice (some ⟨gA, 0, none⟩) nl cA, .slice none 0 0, .int .u64 b, .int .u64 s] 30 := by rw [← hw3]; exact Row.new w2 _ 30
  have T03 := (t1.then_no t2).then_no T23
  have RP3 := RP.turn T03 (fun q => q)
  have RZ3 := RZ.turn T03 (fun q => q)
  have O3 := O2.turn_no T23
  try rw [hw3]
  clear hw3 c0 c1 c2 c3 T23 t1 t2 O2 f2 RP RZ RL RL1 HCO hk0
  have hcA : nl ≤ cA := by
    obtain ⟨_, _, e, _, _, q, _⟩ := O3.form
    cases e
    exact q
  generalize w2.heap.size = g11 at *
  have hkn' : (k : Int) < (nl : Int) := by omega
  have hkc' : (k : Int) < (cA : Int) := by omega
  have hbm := HBD.out m (List.mem_of_getElem? hm)
  have hlm := lost_le (a := m.bond) hsl
  have hat : (acC l)[k * 5 + 2]? = some (.int .u64 m.bond) := by have := acC_at l k m hm 2 (by omega); simpa using this
  have hlen := acC_len l
  have hklen : k * 5 + 4 < (acC l).length := by rw [hlen, hnl.out]; omega
  have q2 : w3.cell? ⟨gA, k * 5 + 2, none⟩ = some (.int .u64 m.bond) := by
    have := World.ownsRow.cells O3 (g := gA) rfl _ _ hat
    simpa [Addr.add_lit] using this
  have HPT : Shut (∀ W, Calls Tryz.prog 38 #[.int .u64 m.bond, .int .u64 sl] W fun e w' => e = .returned (.int .u64 (lostN m.bond sl)) ∧ w' = W) := fun W => part38 W m.bond sl hsl (by omega)
  have hgs : gA ≠ g11 := by omega
  have HK3 : Shut (∀ W, Turn no w3 W → W.cell? ⟨g11, 0, none⟩ = some (.slice (some ⟨gA, 0, none⟩) nl cA) ∧ W.cell? ⟨gA, k * 5 + 2, none⟩ = some (.int .u64 m.bond) ∧ W.cell? ⟨w.heap.size + 1, 2, none⟩ = some (.int .u64 sl)) := fun W t => ⟨t.keep (R3.cell 0 _ rfl) (fun q => q), t.keep q2 (fun q => q), t.keep (RP3.cell 2 _ hP) (fun q => q)⟩
  have esub : IntKind.u64.wrap ((m.bond : Int) - (lostN m.bond sl : Int)) = ((m.bond - lostN m.bond sl : Nat) : Int) := by rw [IntKind.wrap_u64]; omega
  have eadd : IntKind.u64.wrap ((b : Int) + (lostN m.bond sl : Int)) = ((b + lostN m.bond sl : Nat) : Int) := by rw [IntKind.wrap_u64]; omega
  have HM : Shut (l[k]? = some m ∧ m.ad = x) := ⟨hm, hmx⟩
  have HGA : Shut (w.heap.size + 2 < gA) := by show _ < _; omega
  have hq8 : k * 5 + 2 < (acC l).length := by omega
  have HSET := shut (acC_set l k m (m.bond - lostN m.bond sl) hm)
  have hj4 : (acC l)[k * 5 + 4]? = some (.bool m.jail) := by have := acC_at l k m hm 4 (by omega); simpa using this
  have HJ4 := shut hj4
  clear hbm hlm hat hlen hb hm hmx hsl HBD hj4 RP3
  obtain ⟨LO, hLO⟩ : ∃ z : Nat, Shut (lostN m.bond sl = z) := ⟨_, rfl⟩
  obtain ⟨BUn, hBUn⟩ : ∃ z : Nat, Shut (b + lostN m.bond sl = z) := ⟨_, rfl⟩
  obtain ⟨BDn, hBDn⟩ : ∃ z : Nat, Shut (m.bond - lostN m.bond sl = z) := ⟨_, rfl⟩
  rw [hLO.out] at HPT
  rw [hBDn.out, hLO.out] at esub
  rw [hBUn.out, hLO.out] at eadd
  rw [hBDn.out] at HSET
  refine wp_region_held_drew (S := fun W => Turn no w3 W) (by kernel_rfl) (Turn.refl no w3).drew (fun hHeld => ?_)
  refine' wpAnyH_take (i := 0) (v := .pointer (some ⟨g11, 0, none⟩)) rfl (by kernel_rfl) (by kernel_rfl) (by kernel_rfl) (fun _ _ _ h => h) (Or.inl ⟨by kernel_rfl, fun W hW => ?y1⟩) hHeld ?r1
  · go_simp
  refine' wpAnyH_take (i := 1) (v := .slice (some ⟨gA, 0, none⟩) nl cA) rfl (by kernel_rfl) (by kernel_rfl) (by kernel_rfl) (fun _ _ _ h => h) (Or.inl ⟨by kernel_rfl, fun W hW => ?y2⟩) hHeld ?r2
  · have cc := (HK3.out W hW).1
    go_simp
  refine' wpAnyH_take (i := 2) (v := .int .i64 k) rfl (by kernel_rfl) (by kernel_rfl) (by kernel_rfl) (fun _ _ _ h => h) (Or.inl ⟨by kernel_rfl, fun W hW => ?y3⟩) hHeld ?r3
  · go_simp
  refine' wpAnyH_take (i := 3) (v := .pointer (some ⟨gA, k * 5, none⟩)) rfl (by kernel_rfl) (by kernel_rfl) (by kernel_rfl) (fun _ _ _ h => h) (Or.inl ⟨by kernel_rfl, fun W hW => ?y4⟩) hHeld ?r4
  · go_simp
  refine' wpAnyH_take (i := 4) (v := .pointer (some ⟨gA, k * 5 + 2, none⟩)) rfl (by kernel_rfl) (by kernel_rfl) (by kernel_rfl) (fun _ _ _ h => h) (Or.inl ⟨by kernel_rfl, fun W hW => ?y5⟩) hHeld ?r5
  · go_simp
  refine' wpAnyH_take (i := 5) (v := .int .u64 m.bond) rfl (by kernel_rfl) (by kernel_rfl) (by kernel_rfl) (fun _ _ _ h => h) (Or.inl ⟨by kernel_rfl, fun W hW => ?y6⟩) hHeld ?r6
  · have cc := (HK3.out W hW).2.1
    go_simp
  refine' wpAnyH_take (i := 6) (v := .pointer (some ⟨w.heap.size + 1, 2, none⟩)) rfl (by kernel_rfl) (by kernel_rfl) (by kernel_rfl) (fun _ _ _ h => h) (Or.inl ⟨by kernel_rfl, fun W hW => ?y7⟩) hHeld ?r7
  · go_simp
  refine' wpAnyH_take (i := 7) (v := .int .u64 sl) rfl (by kernel_rfl) (by kernel_rfl) (by kernel_rfl) (fun _ _ _ h => h) (Or.inl ⟨by kernel_rfl, fun W hW => ?y8⟩) hHeld ?r8
  · have cc := (HK3.out W hW).2.2
    go_simp
  simp only [List.getElem_toArray, List.getElem_cons_succ, List.getElem_cons_zero, Act.put, List.setIfInBounds_toArray, List.set_cons_zero, List.set_cons_succ]
  refine wpAnyH_ready (rs := [8]) (by kernel_rfl) (by simp) ?_
  refine AllReadyH.cons rfl (fun K hK => ?_) AllReadyH.nil
  go_simp
  refine (HPT.out _).mono ?_
  rintro e w' ⟨rfl, hw'⟩
  rw [hw']
  clear hw'
  refine hK.out _ _ hHeld (fun hHeld => ?_)
  clear hK
  refine wpAnyH_ready (rs := [9]) (by kernel_rfl) (by simp) ?_
  refine AllReadyH.cons rfl (fun K hK => ?_) AllReadyH.nil
  go_simp
  have HTX := shut hHeld
  refine hK.out _ _ hHeld (fun hHeld => ?_)
  clear hK
  refine wpAnyH_done (by kernel_rfl) ?_ _
  obtain ⟨X3, hX3⟩ : ∃ X, w3.drew = X := ⟨_, rfl⟩
  rw [hX3] at HTX ⊢
  clear hX3 hHeld
  go_upto_region 8 with fail
  have TX := HTX.out
  obtain ⟨X4, hX4⟩ : ∃ X, X3.drew = X := ⟨_, rfl⟩
  have TD : Turn no X3 X4 := by rw [← hX4]; exact (Turn.refl no X3).drew
  have T34 := TX.then_no TD
  have R4 := R3.turn T34 (fun q => q)
  have RZ4 := RZ3.turn T34 (fun q => q)
  have O4 := O3.turn_no T34
  have T04 := T03.then_no T34
  have q4 := T34.keep q2 (fun q => q)
  have qf : X4.frozen? ⟨gA, k * 5 + 2, none⟩ = false := by
    rcases O4.2 with ⟨e, _⟩ | ⟨g, c, cur, e, _, ho, _⟩
    · cases e
    · cases e; exact frozen_of_row X4 gA _ _ 50 ho
  have HKA : Shut (∀ W, Turn (fun q => q = gA) X4 W → W.cell? ⟨g11, 0, none⟩ = some (.slice (some ⟨gA, 0, none⟩) nl cA)) := fun W t => t.keep (R4.cell 0 _ rfl) (fun e => hgs e.symm)
  clear q2 R3 RZ3 O3 T03 TX TD T34 HTX HK3 HPT
  refine wp_region_held_drew (S := fun W => Turn (fun q => q = gA) X4 W) (by kernel_rfl) (by rw [hX4]; exact Turn.refl _ X4) (fun hHeld => ?_)
  rw [hX4]
  replace hHeld : Turn (fun q => q = gA) X4 X4 := Turn.refl _ X4
  clear hX4
  refine' wpAnyH_take (i := 0) (v := .pointer (some ⟨g11, 0, none⟩)) rfl (by kernel_rfl) (by kernel_rfl) (by kernel_rfl) (fun _ _ _ h => h) (Or.inl ⟨by kernel_rfl, fun W hW => ?y9⟩) hHeld ?r9
  · go_simp
  refine' wpAnyH_take (i := 1) (v := .slice (some ⟨gA, 0, none⟩) nl cA) rfl (by kernel_rfl) (by kernel_rfl) (by kernel_rfl) (fun _ _ _ h => h) (Or.inl ⟨by kernel_rfl, fun W hW => ?y10⟩) hHeld ?r10
  · have cc := HKA.out W hW
    go_simp
  refine' wpAnyH_take (i := 2) (v := .int .i64 k) rfl (by kernel_rfl) (by kernel_rfl) (by kernel_rfl) (fun _ _ _ h => h) (Or.inl ⟨by kernel_rfl, fun W hW => ?y11⟩) hHeld ?r11
  · go_simp
  refine' wpAnyH_take (i := 3) (v := .pointer (some ⟨g11, 0, none⟩)) rfl (by kernel_rfl) (by kernel_rfl) (by kernel_rfl) (fun _ _ _ h => h) (Or.inl ⟨by kernel_rfl, fun W hW => ?y12⟩) hHeld ?r12
  · go_simp
  refine' wpAnyH_take (i := 4) (v := .slice (some ⟨gA, 0, none⟩) nl cA) rfl (by kernel_rfl) (by kernel_rfl) (by kernel_rfl) (fun _ _ _ h => h) (Or.inl ⟨by kernel_rfl, fun W hW => ?y13⟩) hHeld ?r13
  · have cc := HKA.out W hW
    go_simp
  refine' wpAnyH_take (i := 5) (v := .int .i64 k) rfl (by kernel_rfl) (by kernel_rfl) (by kernel_rfl) (fun _ _ _ h => h) (Or.inl ⟨by kernel_rfl, fun W hW => ?y14⟩) hHeld ?r14
  · go_simp
  refine' wpAnyH_take (i := 6) (v := .pointer (some ⟨gA, k * 5, none⟩)) rfl (by kernel_rfl) (by kernel_rfl) (by kernel_rfl) (fun _ _ _ h => h) (Or.inl ⟨by kernel_rfl, fun W hW => ?y15⟩) hHeld ?r15
  · go_simp
  refine' wpAnyH_take (i := 7) (v := .pointer (some ⟨gA, k * 5 + 2, none⟩)) rfl (by kernel_rfl) (by kernel_rfl) (by kernel_rfl) (fun _ _ _ h => h) (Or.inl ⟨by kernel_rfl, fun W hW => ?y16⟩) hHeld ?r16
  · go_simp
  refine' wpAnyH_take (i := 9) (v := .int .u64 LO) rfl (by kernel_rfl) (by kernel_rfl) (by kernel_rfl) (fun _ _ _ h => h) (Or.inl ⟨by kernel_rfl, fun W hW => ?y17⟩) hHeld ?r17
  · go_simp
  simp only [List.getElem_toArray, List.getElem_cons_succ, List.getElem_cons_zero, Act.put, List.setIfInBounds_toArray, List.set_cons_zero, List.set_cons_succ]
  refine wpAnyH_ready (rs := [8]) (by kernel_rfl) (by simp) ?_
  refine AllReadyH.cons rfl (fun K hK => ?_) AllReadyH.nil
  go_simp
  refine hK.out _ _ hHeld (fun hHeld => ?_)
  clear hK
  refine' wpAnyH_take (i := 10) (v := .int .u64 BDn) rfl (by kernel_rfl) (by kernel_rfl) (by kernel_rfl) (fun _ _ _ h => h) (Or.inl ⟨by kernel_rfl, fun W hW => ?y18⟩) hHeld ?r18
  · go_simp
  refine' wpAnyH_take (i := 11) (v := .pointer (some ⟨gA, k * 5, none⟩)) rfl (by kernel_rfl) (by kernel_rfl) (by kernel_rfl) (fun _ _ _ h => h) (Or.inl ⟨by kernel_rfl, fun W hW => ?y19⟩) hHeld ?r19
  · go_simp
  refine' wpAnyH_take (i := 12) (v := .pointer (some ⟨gA, k * 5 + 2, none⟩)) rfl (by kernel_rfl) (by kernel_rfl) (by kernel_rfl) (fun _ _ _ h => h) (Or.inl ⟨by kernel_rfl, fun W hW => ?y20⟩) hHeld ?r20
  · go_simp
  simp only [List.getElem_toArray, List.getElem_cons_succ, List.getElem_cons_zero, Act.put, List.setIfInBounds_toArray, List.set_cons_zero, List.set_cons_succ]
  refine wpAnyH_ready (rs := [13]) (by kernel_rfl) (by simp) ?_
  refine AllReadyH.cons rfl (fun K hK => ?_) AllReadyH.nil
  go_simp
  refine hK.out _ _ (hHeld.setCell (p := ⟨gA, k * 5 + 2, none⟩) (fun _ => rfl) _) (fun hHeld => ?_)
  clear hK
  refine wpAnyH_done (by kernel_rfl) ?_ _
  clear hHeld HKA
  obtain ⟨w5, hw5⟩ : ∃ w5, X4.setCell ⟨gA, k * 5 + 2, none⟩ (.int .u64 (BDn : Int)) = w5 := ⟨_, rfl⟩
  have O5 := O4.setCell (k * 5 + 2) (.int .u64 (BDn : Int)) (by omega)
  rw [hw5] at O5 ⊢
  have TA : Turn (fun q => q = gA) X4 w5 := by rw [← hw5]; exact (Turn.refl (fun q => q = gA) X4).setCell (p := ⟨gA, k * 5 + 2, none⟩) (fun _ => rfl) _
  have R5 := R4.turn TA (fun e => hgs e.symm)
  have RZ5 := RZ4.turn TA (fun e => by have e' : w.heap.size + 2 = gA := e; omega)
  have T05 : Turn no w0 w5 := T04.trans TA (fun i hi e => by have e' : i = gA := e; omega)
  have q5 : w5.cell? ⟨gA, k * 5 + 4, none⟩ = some (.bool m.jail) := by
    have := World.ownsRow.cells O5 (g := gA) rfl (k * 5 + 4) (.bool m.jail) (by rw [List.getElem?_set_ne (by omega)]; exact HJ4.out)
    simpa [Addr.add_lit] using this
  have qf5 : w5.frozen? ⟨gA, k * 5 + 4, none⟩ = false := by
    rcases O5.2 with ⟨e, _⟩ | ⟨g, c, cur, e, _, ho, _⟩
    · cases e
    · cases e; exact frozen_of_row w5 gA _ _ 50 ho
  obtain ⟨w6, hw6⟩ : ∃ w6, w5.setCell ⟨gA, k * 5 + 4, none⟩ (.bool true) = w6 := ⟨_, rfl⟩
  have O6 := O5.setCell (k * 5 + 4) (.bool true) (by rw [List.length_set]; exact hklen)
  rw [hw6, HSET.out] at O6
  have TA6 : Turn (fun q => q = gA) w5 w6 := by rw [← hw6]; exact (Turn.refl (fun q => q = gA) w5).setCell (p := ⟨gA, k * 5 + 4, none⟩) (fun _ => rfl) _
  have R6 := R5.turn TA6 (fun e => hgs e.symm)
  have RZ6 := RZ5.turn TA6 (fun e => by have e' : w.heap.size + 2 = gA := e; omega)
  have T06 : Turn no w0 w6 := T05.trans TA6 (fun i hi e => by have e' : i = gA := e; omega)
  have HR5 := shut (R5.cell 0 _ rfl)
  have d0 := HR5.out
  clear q4 qf hw5 R4 RZ4 O4 T04 R5 RZ5 O5 T05 TA TA6 HSET HJ4 hklen hq8 esub
  go_upto_region 10 with fail
  try rw [hw6]
  clear hw6 q5 qf5 d0 HR5
  have d2 := R6.cell 2 _ rfl
  have df := R6.frozen 2
  obtain ⟨w7, hw7⟩ : ∃ w7, w6.setCell ⟨g11, 2, none⟩ (.int .u64 (BUn : Int)) = w7 := ⟨_, rfl⟩
  have TG : Turn (fun q => q = g11) w6 w7 := by rw [← hw7]; exact (Turn.refl (fun q => q = g11) w6).setCell (p := ⟨g11, 2, none⟩) (fun _ => rfl) _
  have R7 : Row w7 g11 #[.slice (some ⟨gA, 0, none⟩) nl cA, .slice none 0 0, .int .u64 (BUn : Int), .int .u64 s] 30 := by rw [← hw7]; exact R6.set 2 _
  have RZ7 := RZ6.turn TG (fun e => by have e' : w.heap.size + 2 = g11 := e; omega)
  have O7 := O6.turn TG (fun g hg e => by cases hg; exact hgs e)
  have T07 : Turn no w w7 := (HT0.out.then_no T06).trans TG (fun i hi e => by have e' : i = g11 := e; omega)
  clear R6 RZ6 O6 T06 TG
  go_upto_region 11 with fail
  try rw [hw7]
  clear hw7 d2 df eadd
  go_upto_region 12 with fail
  go_upto_region 13 with fail
  go_loopw [13, 14] (fun z y wr => z = .slice none 0 0 ∧ y = .int .i64 0 ∧ wr = w7) (fun _ _ _ => 0)
  case atStart => exact ⟨rfl, rfl, rfl⟩
  case round =>
    obtain ⟨rfl, rfl, hwr⟩ := hrel
    rw [hwr]
    clear hwr
    have d1 := R7.cell 1 _ rfl
    have df := R7.frozen 1
    obtain ⟨w8, hw8⟩ : ∃ w8, w7.setCell ⟨g11, 1, none⟩ (.slice none 0 0) = w8 := ⟨_, rfl⟩
    go_upto_region 23 with fail
    have TG : Turn (fun q => q = g11) w7 w8 := by rw [← hw8]; exact (Turn.refl (fun q => q = g11) w7).setCell (p := ⟨g11, 1, none⟩) (fun _ => rfl) _
    have R8 : Row w8 g11 #[.slice (some ⟨gA, 0, none⟩) nl cA, .slice none 0 0, .int .u64 (BUn : Int), .int .u64 s] 30 := by rw [← hw8]; exact R7.set 1 _
    have RZ8 := RZ7.turn TG (fun e => by have e' : w.heap.size + 2 = g11 := e; omega)
    have O8 := O7.turn TG (fun g hg e => by cases hg; exact hgs e)
    have T08 : Turn no w w8 := T07.trans TG (fun i hi e => by have e' : i = g11 := e; omega)
    try rw [hw8]
    have TS := (Turn.refl (fun q => q = w.heap.size + 2) w8).setRow (w.heap.size + 2) #[.slice (some ⟨gA, 0, none⟩) nl cA, .slice none 0 0, .int .u64 (BUn : Int), .int .u64 s] (fun _ => rfl)
    have HEnd : Shut (OwnN (w8.setRow (w.heap.size + 2) #[.slice (some ⟨gA, 0, none⟩) nl cA, .slice none 0 0, .int .u64 (BUn : Int), .int .u64 s]) 50 5 (.slice (some ⟨gA, 0, none⟩) nl cA) nl (acC (l.set k ⟨m.ad, m.bal, BDn, m.nonce, true⟩)) ∧ (∀ g, (Value.slice (some ⟨gA, 0, none⟩) nl cA).ownBlock = some g → w.heap.size ≤ g) ∧ Turn no w (w8.setRow (w.heap.size + 2) #[.slice (some ⟨gA, 0, none⟩) nl cA, .slice none 0 0, .int .u64 (BUn : Int), .int .u64 s])) := shut ⟨O8.turn TS (fun g hg e => by cases hg; have e' : gA = w.heap.size + 2 := e; have := HGA.out; omega), fun g hg => by cases hg; have := HGA.out; show w.heap.size ≤ gA; omega, T08.setRow _ _ (fun q => by omega)⟩
    have iL : (Tryz.prog.info? 30).map (·.size) = some (#[.slice (some ⟨gA, 0, none⟩) nl cA, .slice none 0 0, .int .u64 (BUn : Int), .int .u64 s] : Array Value).size := by kernel_rfl
    have oL : (#[.slice (some ⟨gA, 0, none⟩) nl cA, .slice none 0 0, .int .u64 (BUn : Int), .int .u64 s] : Array Value).all (·.oneCell') = true := by simp [Value.oneCell']
    clear hw8 d1 df TG T08 O8 TS R7 RZ7 T07 O7
    generalize hEA : (#[.slice (some ⟨gA, 0, none⟩) nl cA, .slice none 0 0, .int .u64 (BUn : Int), .int .u64 s] : Array Value) = EA at *
    generalize hZA : (#[.slice none 0 0, .slice none 0 0, .int .u64 0, .int .u64 0] : Array Value) = ZA at *
    have sZ : ZA.size = EA.size := by rw [← hZA, ← hEA]; rfl
    have hEA := shut hEA
    have hZA := shut hZA
    go_wp2_with (first | (guard_target =~ wpList _ _ _ ({ dst := _, op := Op.load 30 _, .. } :: _) _ _; refine wpList_load_row rfl 30 (.tmp 11) rfl g11 rfl 30 EA _ _ R8 Tryz.underlying30 rfl iL ?_) | (guard_target =~ wpList _ _ _ ({ dst := _, op := Op.store 30 _ _, .. } :: _) _ _; refine wpList_store_row rfl 30 (.tmp 8) (.tmp 115) rfl (w.heap.size + 2) EA rfl rfl 30 ZA RZ8 iL sZ oL ?_))
    have HE := HEnd.out
    rw [← hBDn.out] at HE
    refine bodyPost_ret (v := .tuple #[.agg EA, .int .i64 0]) ?_ rfl ⟨.slice (some ⟨gA, 0, none⟩) nl cA, k, m, by rw [← hEA.out, hBUn.out], HM.out.1, HM.out.2, HE⟩
    exact results_cell_row_tmp (P := Tryz.prog) Tryz.results10 _ _ (w.heap.size + 2) 30 EA (0, 0) _ rfl (setRow_heap _ _ _ _ _ _ RZ8) Tryz.underlying30 rfl iL
end Go.Proofs.YtaoigopjfelgpaaGreatDoor
