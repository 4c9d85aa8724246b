/- Prove of both. -/
import Derived.Test.YtnibmkenbidnfaaDoorK9
namespace Go.Proofs.YtnibmkenbidnfaaDoor
open Go.RowKit
set_option linter.unusedVariables false

/-- What Prove answers: the number, and whether there is a proof. -/
def prE (l : Its) (i : Int) : Int := if bigOf (txs l) = true then 4 else if i < 0 ∨ (l.length : Int) ≤ i then 2 else 0
def prA (l : Its) (i : Int) : List (List UInt8) := if prE l i = 0 then wayH (txs l) i.toNat else []
def prT (l : Its) (i : Int) : Int := if prE l i = 0 then l.length else 0
def prI (l : Its) (i : Int) : Int := if prE l i = 0 then i else 0
/-- A proof in new memory. -/
def Pv (w : World) (l : Its) (i : Int) (e : Ending) (w' : World) : Prop := ∃ v, e = .returned (.tuple #[.agg #[.int .i64 (prT l i), .int .i64 (prI l i), v], .int .i64 (prE l i)]) ∧ OwnN w' 35 32 v (prA l i).length (hsF (prA l i)) ∧ (∀ g, v.ownBlock = some g → w.heap.size ≤ g) ∧ Turn no w w'
theorem Pv.no {w w' : World} {l : Its} {i : Int} {e : Ending} (er : Int) (he : prE l i = er) (hz : er ≠ 0) (h : e = .returned (.tuple #[.agg #[.int .i64 0, .int .i64 0, .slice none 0 0], .int .i64 er])) (t : Turn no w w') : Pv w l i e w' := by
  have h0 : ¬ prE l i = 0 := by rw [he]; exact hz
  refine ⟨.slice none 0 0, ?_, ?_, (fun g q => by cases q), t⟩
  · rw [h, he]
    unfold prT prI
    rw [if_neg h0, if_neg h0]
  · unfold prA
    rw [if_neg h0]
    exact OwnN.nil w' 35 32
theorem zp_one : (#[Value.int .i64 0, .int .i64 0, .slice none 0 0].all (·.oneCell')) = true := by simp [Value.oneCell']
theorem size34 : (Tryd.prog.info? 52).map (·.size) = some 3 := by kernel_rfl
set_option maxRecDepth 100000 in
set_option maxHeartbeats 8000000 in
theorem prove14 (w : World) (a : Option Addr) (ca : Nat) (l : Its) (i : Int) (h : BlAt w a ca l) (hl : Laid1 w) (h2 : 2 ≤ w.heap.size) : Calls Tryd.prog 22 #[.slice a l.length ca, .int .i64 i] w (Pv w l i) := by
  obtain ⟨Z, hZ⟩ : ∃ Z : Array Value, Z = #[.int .i64 0, .int .i64 0, .slice none 0 0] := ⟨_, rfl⟩
  obtain ⟨w0, hw0⟩ : ∃ w0, w.alloc (.cells #[.int .i64 0, .int .i64 0, .slice none 0 0] 52) = w0 := ⟨_, rfl⟩
  have T0 : Turn no w w0 := by rw [← hw0]; exact (Turn.refl no w).alloc _
  have RZ : Row w0 w.heap.size #[.int .i64 0, .int .i64 0, .slice none 0 0] 52 := by rw [← hw0]; exact Row.new w _ 52
  have hb := big_all (h.turn_no T0)
  clear hZ Z
  cases hbg : bigOf (txs l) with
  | true =>
    have e1 : prE l i = 4 := if_pos hbg
    rw [hbg] at hb
    have HE := shut e1
    generalize hln : l.length = n at *
    clear hbg h e1 hln
    go_enter Tryd.func22, Tryd.ntmps22
    go_upto_region 1 with fail
    try rw [hw0]
    clear hw0
    go_wp2_with (first | (go_at_call 38; refine hb.mono ?_; clear hb; rintro e w1 ⟨rfl, hw1⟩; subst hw1) | (guard_target =~ wpList _ _ _ ({ dst := _, op := Op.store 52 _ _, .. } :: _) _ _; refine wpList_store_row rfl 52 (.tmp 4) (.tmp 8) rfl w.heap.size #[.int .i64 0, .int .i64 0, .slice none 0 0] rfl rfl 52 _ RZ size34 rfl zp_one ?_))
    refine bodyPost_ret (v := .tuple #[.agg #[.int .i64 0, .int .i64 0, .slice none 0 0], .int .i64 4]) ?_ rfl ?_
    · exact results_cell_row_tmp (P := Tryd.prog) Tryd.results22 _ _ w.heap.size 52 #[.int .i64 0, .int .i64 0, .slice none 0 0] (0, 0) _ rfl (setRow_heap _ _ _ _ _ _ RZ) Tryd.underlying52 rfl size34
    · exact Pv.no 4 HE.out (by decide) rfl (T0.setRow w.heap.size _ (fun q => absurd q (Nat.lt_irrefl _)))
  | false =>
    have ho := (big_of l).1 hbg
    rw [hbg] at hb
    by_cases hi : i < 0 ∨ (l.length : Int) ≤ i
    · have e1 : prE l i = 2 := by unfold prE; rw [if_neg (by rw [hbg]; decide), if_pos hi]
      have HE := shut e1
      generalize hln : l.length = n at *
      clear hbg h e1 hln ho
      by_cases hi0 : i < 0
      · clear hi
        go_enter Tryd.func22, Tryd.ntmps22
        go_upto_region 1 with fail
        try rw [hw0]
        clear hw0
        go_wp2_with (first | (go_at_call 38; refine hb.mono ?_; clear hb; rintro e w1 ⟨rfl, hw1⟩; subst hw1) | (guard_target =~ wpList _ _ _ ({ dst := _, op := Op.store 52 _ _, .. } :: _) _ _; refine wpList_store_row rfl 52 (.tmp 4) (.tmp 17) rfl w.heap.size #[.int .i64 0, .int .i64 0, .slice none 0 0] rfl rfl 52 _ RZ size34 rfl zp_one ?_))
        refine bodyPost_ret (v := .tuple #[.agg #[.int .i64 0, .int .i64 0, .slice none 0 0], .int .i64 2]) ?_ rfl ?_
        · exact results_cell_row_tmp (P := Tryd.prog) Tryd.results22 _ _ w.heap.size 52 #[.int .i64 0, .int .i64 0, .slice none 0 0] (0, 0) _ rfl (setRow_heap _ _ _ _ _ _ RZ) Tryd.underlying52 rfl size34
        · exact Pv.no 2 HE.out (by decide) rfl (T0.setRow w.heap.size _ (fun q => absurd q (Nat.lt_irrefl _)))
      · have hin : (n : Int) ≤ i := by omega
        clear hi
        go_enter Tryd.func22, Tryd.ntmps22
        go_upto_region 1 with fail
        try rw [hw0]
        clear hw0
        go_wp2_with (first | (go_at_call 38; refine hb.mono ?_; clear hb; rintro e w1 ⟨rfl, hw1⟩; subst hw1) | (guard_target =~ wpList _ _ _ ({ dst := _, op := Op.store 52 _ _, .. } :: _) _ _; refine wpList_store_row rfl 52 (.tmp 4) (.tmp 17) rfl w.heap.size #[.int .i64 0, .int .i64 0, .slice none 0 0] rfl rfl 52 _ RZ size34 rfl zp_one ?_))
        refine bodyPost_ret (v := .tuple #[.agg #[.int .i64 0, .int .i64 0, .slice none 0 0], .int .i64 2]) ?_ rfl ?_
        · exact results_cell_row_tmp (P := Tryd.prog) Tryd.results22 _ _ w.heap.size 52 #[.int .i64 0, .int .i64 0, .slice none 0 0] (0, 0) _ rfl (setRow_heap _ _ _ _ _ _ RZ) Tryd.underlying52 rfl size34
        · exact Pv.no 2 HE.out (by decide) rfl (T0.setRow w.heap.size _ (fun q => absurd q (Nat.lt_irrefl _)))
    · have e1 : prE l i = 0 := by unfold prE; rw [if_neg (by rw [hbg]; decide), if_neg hi]
      obtain ⟨k, rfl⟩ : ∃ k : Nat, i = (k : Int) := ⟨i.toNat, by omega⟩
      have hkn : k < l.length := by omega
      have hW : Calls Tryd.prog 39 #[.slice a l.length ca, .int .i64 k] w0 (Wy w0 (wayH (txs l) k)) := by
        rcases (h.turn_no T0).pcs with q | ⟨b, o, rfl, p⟩
        · rw [q] at hkn; simp at hkn
        · exact (way33 l.length l b o ca k w0 rfl p h.le (by omega) ho hkn (hl.turn T0 (fun q => q)) (by have := T0.size; omega)).2
      have HA : Shut (prA l k = wayH (txs l) k ∧ prT l k = l.length ∧ prI l k = k) := by
        unfold prA prT prI
        rw [if_pos e1, if_pos e1, if_pos e1]
        exact ⟨rfl, rfl, rfl⟩
      have HE := shut e1
      have hi0 : ¬ (k : Int) < 0 := by omega
      have hi1 : ¬ (l.length : Int) ≤ (k : Int) := by omega
      clear hbg h e1 ho hi hl
      generalize wayH (txs l) k = A at *
      obtain ⟨n, hn⟩ : ∃ n, l.length = n := ⟨_, rfl⟩
      rw [hn] at HA hW hi1 hb ⊢
      clear hn hkn
      go_enter Tryd.func22, Tryd.ntmps22
      go_upto_region 1 with fail
      try rw [hw0]
      clear hw0
      go_wp2_with (first | (go_at_call 38; refine hb.mono ?_; clear hb; rintro e w1 ⟨rfl, hw1⟩; subst hw1) | (go_at_call 39; refine hW.mono ?_; clear hW; intro e w3 h3; obtain ⟨v3, rfl, O3, f3, t3⟩ := h3; obtain ⟨va, vc, rfl, _⟩ := O3.form; have RZ3 := Row.turn RZ t3 (fun q => q); have hlv : (#[Value.int .i64 n, .int .i64 k, .slice va A.length vc].all (·.oneCell')) = true := by simp [Value.oneCell']) | (guard_target =~ wpList _ _ _ ({ dst := _, op := Op.store 52 _ _, .. } :: _) _ _; refine wpList_store_row rfl 52 (.tmp 4) (.tmp 24) rfl w.heap.size #[.int .i64 n, .int .i64 k, .slice va A.length vc] rfl rfl 52 _ RZ3 size34 rfl hlv ?_))
      have TS : Turn (fun q => q = w.heap.size) w3 (w3.setRow w.heap.size #[.int .i64 n, .int .i64 k, .slice va A.length vc]) := (Turn.refl _ w3).setRow _ _ (fun _ => rfl)
      have hg0 : w.heap.size < w1.heap.size := RZ.lt
      refine bodyPost_ret (v := .tuple #[.agg #[.int .i64 n, .int .i64 k, .slice va A.length vc], .int .i64 0]) ?_ rfl ⟨.slice va A.length vc, ?_, ?_, fun g hg => by have := f3 g hg; omega, (T0.then_no t3).trans TS (fun i hi q => by omega)⟩
      · exact results_cell_row_tmp (P := Tryd.prog) Tryd.results22 _ _ w.heap.size 52 #[.int .i64 n, .int .i64 k, .slice va A.length vc] (0, 0) _ rfl (setRow_heap _ _ _ _ _ _ RZ3) Tryd.underlying52 rfl size34
      · rw [HA.out.2.1, HA.out.2.2, HE.out]
      · rw [HA.out.1]
        exact O3.turn TS (fun g hg q => by have := f3 g hg; omega)
set_option maxRecDepth 100000 in
set_option maxHeartbeats 8000000 in
theorem prove15 (w : World) (a : Option Addr) (ca : Nat) (l : Its) (i : Int) (h : BlAt w a ca l) (hl : Laid0 w) (h2 : 2 ≤ w.heap.size) : Calls Tryd.prog 23 #[.slice a l.length ca, .int .i64 i] w (Pv w l i) := by
  obtain ⟨Z, hZ⟩ : ∃ Z : Array Value, Z = #[.int .i64 0, .int .i64 0, .slice none 0 0] := ⟨_, rfl⟩
  obtain ⟨w0, hw0⟩ : ∃ w0, w.alloc (.cells #[.int .i64 0, .int .i64 0, .slice none 0 0] 52) = w0 := ⟨_, rfl⟩
  have T0 : Turn no w w0 := by rw [← hw0]; exact (Turn.refl no w).alloc _
  have RZ : Row w0 w.heap.size #[.int .i64 0, .int .i64 0, .slice none 0 0] 52 := by rw [← hw0]; exact Row.new w _ 52
  have hb := rbig_all (h.turn_no T0)
  clear hZ Z
  cases hbg : bigOf (txs l) with
  | true =>
    have e1 : prE l i = 4 := if_pos hbg
    rw [hbg] at hb
    have HE := shut e1
    generalize hln : l.length = n at *
    clear hbg h e1 hln
    go_enter Tryd.func23, Tryd.ntmps23
    go_upto_region 1 with fail
    try rw [hw0]
    clear hw0
    go_wp2_with (first | (go_at_call 40; refine hb.mono ?_; clear hb; rintro e w1 ⟨rfl, hw1⟩; subst hw1) | (guard_target =~ wpList _ _ _ ({ dst := _, op := Op.store 52 _ _, .. } :: _) _ _; refine wpList_store_row rfl 52 (.tmp 4) (.tmp 9) rfl w.heap.size #[.int .i64 0, .int .i64 0, .slice none 0 0] rfl rfl 52 _ RZ size34 rfl zp_one ?_))
    refine bodyPost_ret (v := .tuple #[.agg #[.int .i64 0, .int .i64 0, .slice none 0 0], .int .i64 4]) ?_ rfl ?_
    · exact results_cell_row_tmp (P := Tryd.prog) Tryd.results23 _ _ w.heap.size 52 #[.int .i64 0, .int .i64 0, .slice none 0 0] (0, 0) _ rfl (setRow_heap _ _ _ _ _ _ RZ) Tryd.underlying52 rfl size34
    · exact Pv.no 4 HE.out (by decide) rfl (T0.setRow w.heap.size _ (fun q => absurd q (Nat.lt_irrefl _)))
  | false =>
    have ho := (big_of l).1 hbg
    rw [hbg] at hb
    by_cases hi : i < 0 ∨ (l.length : Int) ≤ i
    · have e1 : prE l i = 2 := by unfold prE; rw [if_neg (by rw [hbg]; decide), if_pos hi]
      have HE := shut e1
      generalize hln : l.length = n at *
      clear hbg h e1 hln ho
      by_cases hi0 : i < 0
      · clear hi
        go_enter Tryd.func23, Tryd.ntmps23
        go_upto_region 1 with fail
        try rw [hw0]
        clear hw0
        go_wp2_with (first | (go_at_call 40; refine hb.mono ?_; clear hb; rintro e w1 ⟨rfl, hw1⟩; subst hw1) | (guard_target =~ wpList _ _ _ ({ dst := _, op := Op.store 52 _ _, .. } :: _) _ _; refine wpList_store_row rfl 52 (.tmp 4) (.tmp 18) rfl w.heap.size #[.int .i64 0, .int .i64 0, .slice none 0 0] rfl rfl 52 _ RZ size34 rfl zp_one ?_))
        refine bodyPost_ret (v := .tuple #[.agg #[.int .i64 0, .int .i64 0, .slice none 0 0], .int .i64 2]) ?_ rfl ?_
        · exact results_cell_row_tmp (P := Tryd.prog) Tryd.results23 _ _ w.heap.size 52 #[.int .i64 0, .int .i64 0, .slice none 0 0] (0, 0) _ rfl (setRow_heap _ _ _ _ _ _ RZ) Tryd.underlying52 rfl size34
        · exact Pv.no 2 HE.out (by decide) rfl (T0.setRow w.heap.size _ (fun q => absurd q (Nat.lt_irrefl _)))
      · have hin : (n : Int) ≤ i := by omega
        clear hi
        go_enter Tryd.func23, Tryd.ntmps23
        go_upto_region 1 with fail
        try rw [hw0]
        clear hw0
        go_wp2_with (first | (go_at_call 40; refine hb.mono ?_; clear hb; rintro e w1 ⟨rfl, hw1⟩; subst hw1) | (guard_target =~ wpList _ _ _ ({ dst := _, op := Op.store 52 _ _, .. } :: _) _ _; refine wpList_store_row rfl 52 (.tmp 4) (.tmp 18) rfl w.heap.size #[.int .i64 0, .int .i64 0, .slice none 0 0] rfl rfl 52 _ RZ size34 rfl zp_one ?_))
        refine bodyPost_ret (v := .tuple #[.agg #[.int .i64 0, .int .i64 0, .slice none 0 0], .int .i64 2]) ?_ rfl ?_
        · exact results_cell_row_tmp (P := Tryd.prog) Tryd.results23 _ _ w.heap.size 52 #[.int .i64 0, .int .i64 0, .slice none 0 0] (0, 0) _ rfl (setRow_heap _ _ _ _ _ _ RZ) Tryd.underlying52 rfl size34
        · exact Pv.no 2 HE.out (by decide) rfl (T0.setRow w.heap.size _ (fun q => absurd q (Nat.lt_irrefl _)))
    · have e1 : prE l i = 0 := by unfold prE; rw [if_neg (by rw [hbg]; decide), if_neg hi]
      obtain ⟨k, rfl⟩ : ∃ k : Nat, i = (k : Int) := ⟨i.toNat, by omega⟩
      have hkn : k < l.length := by omega
      have hW : Calls Tryd.prog 41 #[.slice a l.length ca, .int .i64 k] w0 (Wy w0 (wayH (txs l) k)) := by
        rcases (h.turn_no T0).pcs with q | ⟨b, o, rfl, p⟩
        · rw [q] at hkn; simp at hkn
        · exact (rway34 l.length l b o ca k w0 rfl p h.le (by omega) ho hkn (hl.turn T0 (fun q => q)) (by have := T0.size; omega)).2
      have HA : Shut (prA l k = wayH (txs l) k ∧ prT l k = l.length ∧ prI l k = k) := by
        unfold prA prT prI
        rw [if_pos e1, if_pos e1, if_pos e1]
        exact ⟨rfl, rfl, rfl⟩
      have HE := shut e1
      have hi0 : ¬ (k : Int) < 0 := by omega
      have hi1 : ¬ (l.length : Int) ≤ (k : Int) := by omega
      clear hbg h e1 ho hi hl
      generalize wayH (txs l) k = A at *
      obtain ⟨n, hn⟩ : ∃ n, l.length = n := ⟨_, rfl⟩
      rw [hn] at HA hW hi1 hb ⊢
      clear hn hkn
      go_enter Tryd.func23, Tryd.ntmps23
      go_upto_region 1 with fail
      try rw [hw0]
      clear hw0
      go_wp2_with (first | (go_at_call 40; refine hb.mono ?_; clear hb; rintro e w1 ⟨rfl, hw1⟩; subst hw1) | (go_at_call 41; refine hW.mono ?_; clear hW; intro e w3 h3; obtain ⟨v3, rfl, O3, f3, t3⟩ := h3; obtain ⟨va, vc, rfl, _⟩ := O3.form; have RZ3 := Row.turn RZ t3 (fun q => q); have hlv : (#[Value.int .i64 n, .int .i64 k, .slice va A.length vc].all (·.oneCell')) = true := by simp [Value.oneCell']) | (guard_target =~ wpList _ _ _ ({ dst := _, op := Op.store 52 _ _, .. } :: _) _ _; refine wpList_store_row rfl 52 (.tmp 4) (.tmp 26) rfl w.heap.size #[.int .i64 n, .int .i64 k, .slice va A.length vc] rfl rfl 52 _ RZ3 size34 rfl hlv ?_))
      have TS : Turn (fun q => q = w.heap.size) w3 (w3.setRow w.heap.size #[.int .i64 n, .int .i64 k, .slice va A.length vc]) := (Turn.refl _ w3).setRow _ _ (fun _ => rfl)
      have hg0 : w.heap.size < w1.heap.size := RZ.lt
      refine bodyPost_ret (v := .tuple #[.agg #[.int .i64 n, .int .i64 k, .slice va A.length vc], .int .i64 0]) ?_ rfl ⟨.slice va A.length vc, ?_, ?_, fun g hg => by have := f3 g hg; omega, (T0.then_no t3).trans TS (fun i hi q => by omega)⟩
      · exact results_cell_row_tmp (P := Tryd.prog) Tryd.results23 _ _ w.heap.size 52 #[.int .i64 n, .int .i64 k, .slice va A.length vc] (0, 0) _ rfl (setRow_heap _ _ _ _ _ _ RZ3) Tryd.underlying52 rfl size34
      · rw [HA.out.2.1, HA.out.2.2, HE.out]
      · rw [HA.out.1]
        exact O3.turn TS (fun g hg q => by have := f3 g hg; omega)
end Go.Proofs.YtnibmkenbidnfaaDoor

