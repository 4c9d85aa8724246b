/- Texts in one. -/
import Derived.Test.YtaoigopjfelgpaaGreatDoorK1
/- way of both. -/
namespace Go.Proofs.YtaoigopjfelgpaaGreatDoor
open Go.RowKit
set_option linter.unusedVariables false

theorem txs_take (l : Its) (k : Nat) : txs (l.take k) = (txs l).take k := by simp [txs, List.map_take]
theorem txs_drop (l : Its) (k : Nat) : txs (l.drop k) = (txs l).drop k := by simp [txs, List.map_drop]
theorem okL.take {l : Its} (h : okL l) (k : Nat) : okL (l.take k) := ⟨by have := h.1; simp; omega, fun x hx => h.2 x (List.mem_of_mem_take hx)⟩
theorem okL.drop {l : Its} (h : okL l) (k : Nat) : okL (l.drop k) := ⟨by have := h.1; simp; omega, fun x hx => h.2 x (List.mem_of_mem_drop hx)⟩

def wayF : Nat → List (List UInt8) → Nat → List (List UInt8)
  | 0, _, _ => []
  | f + 1, l, a => if l.length ≤ 1 then [] else if a < splitN l.length then wayF f (l.take (splitN l.length)) a ++ [topH (l.drop (splitN l.length))] else wayF f (l.drop (splitN l.length)) (a - splitN l.length) ++ [topH (l.take (splitN l.length))]
theorem wayF_more : ∀ (f : Nat) (l : List (List UInt8)) (a : Nat), l.length ≤ f → wayF (f + 1) l a = wayF f l a
  | 0, l, a, h => by
    show (if l.length ≤ 1 then [] else _) = []
    rw [if_pos (by omega)]
  | f + 1, l, a, h => by
    show (if l.length ≤ 1 then [] else if a < splitN l.length then wayF (f + 1) (l.take (splitN l.length)) a ++ [topH (l.drop (splitN l.length))] else wayF (f + 1) (l.drop (splitN l.length)) (a - splitN l.length) ++ [topH (l.take (splitN l.length))]) = (if l.length ≤ 1 then [] else if a < splitN l.length then wayF f (l.take (splitN l.length)) a ++ [topH (l.drop (splitN l.length))] else wayF f (l.drop (splitN l.length)) (a - splitN l.length) ++ [topH (l.take (splitN l.length))])
    by_cases h1 : l.length ≤ 1
    · rw [if_pos h1, if_pos h1]
    · have h2 := splitN_lt l.length (by omega)
      have h3 := splitN_pos l.length
      rw [if_neg h1, if_neg h1, wayF_more f _ a (by simp; omega), wayF_more f _ (a - splitN l.length) (by simp; omega)]
/-- What stands beside a place's way. -/
def wayH (l : List (List UInt8)) (a : Nat) : List (List UInt8) := wayF l.length l a
theorem wayF_eq (f : Nat) (l : List (List UInt8)) (a : Nat) (h : l.length ≤ f) : wayF f l a = wayH l a := by
  obtain ⟨d, rfl⟩ : ∃ d, f = l.length + d := ⟨f - l.length, by omega⟩
  induction d with
  | zero => rfl
  | succ d ih => rw [← Nat.add_assoc, wayF_more _ l a (by omega)]; exact ih (by omega)
theorem wayH_one (l : List (List UInt8)) (a : Nat) (h : l.length = 1) : wayH l a = [] := by
  unfold wayH
  rw [h]
  show (if l.length ≤ 1 then [] else _) = []
  rw [if_pos (by omega)]
theorem wayH_left (l : List (List UInt8)) (a : Nat) (h : 2 ≤ l.length) (ha : a < splitN l.length) : wayH l a = wayH (l.take (splitN l.length)) a ++ [topH (l.drop (splitN l.length))] := by
  obtain ⟨m, hm⟩ : ∃ m, l.length = m + 1 := ⟨l.length - 1, by omega⟩
  have h2 := splitN_lt l.length (by omega)
  have e : wayH l a = wayF (m + 1) l a := by unfold wayH; rw [hm]
  rw [e]
  show (if l.length ≤ 1 then [] else if a < splitN l.length then wayF m (l.take (splitN l.length)) a ++ [topH (l.drop (splitN l.length))] else _) = _
  rw [if_neg (by omega), if_pos ha, wayF_eq m _ _ (by simp; omega)]
theorem wayH_right (l : List (List UInt8)) (a : Nat) (h : 2 ≤ l.length) (ha : ¬ a < splitN l.length) : wayH l a = wayH (l.drop (splitN l.length)) (a - splitN l.length) ++ [topH (l.take (splitN l.length))] := by
  obtain ⟨m, hm⟩ : ∃ m, l.length = m + 1 := ⟨l.length - 1, by omega⟩
  have h2 := splitN_lt l.length (by omega)
  have h3 := splitN_pos l.length
  have e : wayH l a = wayF (m + 1) l a := by unfold wayH; rw [hm]
  rw [e]
  show (if l.length ≤ 1 then [] else if a < splitN l.length then _ else wayF m (l.drop (splitN l.length)) (a - splitN l.length) ++ [topH (l.take (splitN l.length))]) = _
  rw [if_neg (by omega), if_neg ha, wayF_eq m _ _ (by simp; omega)]
theorem info25 : (Tryz.prog.info? 40).map (fun i => (i.zero, i.size, i.bytes)) = some (some (.agg (hb32 z32)), 32, 32) := by kernel_rfl
theorem hb32_ones {X : List UInt8} : ∀ u ∈ (hb32 X).toList, u.oneCell' = true := by
  intro u hu
  simp only [hb32, List.mem_map] at hu
  obtain ⟨b, _, rfl⟩ := hu
  rfl
theorem bsl32 (w : World) (X : List UInt8) (hx : X.length = 32) : (Instr.buildSlice 51 1 #[(0, .agg (hb32 X))]).run Tryz.prog w = .ok (.slice (some ⟨w.heap.size, 0, none⟩) 1 1) (w.alloc (.cells (hb32 X) 40)) := by
  obtain _ | ⟨x0, X⟩ := X
  · simp at hx
  obtain _ | ⟨x1, X⟩ := X
  · simp at hx
  obtain _ | ⟨x2, X⟩ := X
  · simp at hx
  obtain _ | ⟨x3, X⟩ := X
  · simp at hx
  obtain _ | ⟨x4, X⟩ := X
  · simp at hx
  obtain _ | ⟨x5, X⟩ := X
  · simp at hx
  obtain _ | ⟨x6, X⟩ := X
  · simp at hx
  obtain _ | ⟨x7, X⟩ := X
  · simp at hx
  obtain _ | ⟨x8, X⟩ := X
  · simp at hx
  obtain _ | ⟨x9, X⟩ := X
  · simp at hx
  obtain _ | ⟨x10, X⟩ := X
  · simp at hx
  obtain _ | ⟨x11, X⟩ := X
  · simp at hx
  obtain _ | ⟨x12, X⟩ := X
  · simp at hx
  obtain _ | ⟨x13, X⟩ := X
  · simp at hx
  obtain _ | ⟨x14, X⟩ := X
  · simp at hx
  obtain _ | ⟨x15, X⟩ := X
  · simp at hx
  obtain _ | ⟨x16, X⟩ := X
  · simp at hx
  obtain _ | ⟨x17, X⟩ := X
  · simp at hx
  obtain _ | ⟨x18, X⟩ := X
  · simp at hx
  obtain _ | ⟨x19, X⟩ := X
  · simp at hx
  obtain _ | ⟨x20, X⟩ := X
  · simp at hx
  obtain _ | ⟨x21, X⟩ := X
  · simp at hx
  obtain _ | ⟨x22, X⟩ := X
  · simp at hx
  obtain _ | ⟨x23, X⟩ := X
  · simp at hx
  obtain _ | ⟨x24, X⟩ := X
  · simp at hx
  obtain _ | ⟨x25, X⟩ := X
  · simp at hx
  obtain _ | ⟨x26, X⟩ := X
  · simp at hx
  obtain _ | ⟨x27, X⟩ := X
  · simp at hx
  obtain _ | ⟨x28, X⟩ := X
  · simp at hx
  obtain _ | ⟨x29, X⟩ := X
  · simp at hx
  obtain _ | ⟨x30, X⟩ := X
  · simp at hx
  obtain _ | ⟨x31, X⟩ := X
  · simp at hx
  obtain _ | ⟨x32, X⟩ := X
  · kernel_rfl
  · simp at hx
theorem wp_bslice1 {P : Program} {o : Oper} {a : Act} {w : World} {K : Act → World → Prop} {Q : Exit → Act → World → Prop} (t : TypeId) (x : Operand) (ho : o.op = .buildSlice t 1 #[(0, x)]) (v : Value) (hx : a.eval x = v) {r : Value} {w' : World} (hr : (Instr.buildSlice t 1 #[(0, v)]).run P w = .ok r w') (h : K (a.put o.dst r) w') : Oper.wp P o a w K Q := by
  unfold Oper.wp execOp
  simp only [ho, hx, Sem.run_bind, List.map_toArray, List.map_cons, List.map_nil, hr, Result.andThen_ok, Sem.run_pure]
  exact h
theorem wp_append_runT {P : Program} {o : Oper} {a : Act} {w : World} {K : Act → World → Prop} {Q : Exit → Act → World → Prop} (s x : Operand) {t tx ty : TypeId}
    (ho : o.op = .call { callee := .builtin .append, args := #[s, x], argTypes := #[t, tx] }) (hty : o.type = ty) (v xv : Value) (hs : a.eval s = v) (hx : a.eval x = xv) {v' : Value} {w' : World}
    (hr : (Builtin.append_ #[t, tx] ty #[v, xv]).run P w = .ok v' w') (h : K (a.put o.dst v') w') : Oper.wp P o a w K Q := by
  subst hty
  exact wp_append_run s x ho v xv hs hx hr h
theorem wpList_bslice1 {P : Program} {ops : Array Oper} {rest : List Oper} {op : Oper} {a : Act} {w : World} {Q : Exit → Act → World → Prop} (hgd : op.guard = none) (t : TypeId) (x : Operand) (ho : op.op = .buildSlice t 1 #[(0, x)]) (v : Value) (hx : a.eval x = v) (r : Value) (w' : World) (hr : (Instr.buildSlice t 1 #[(0, v)]).run P w = .ok r w') (h : wpList P ops Q rest (a.put op.dst r) w') : wpList P ops Q (op :: rest) a w :=
  wpList_plain hgd fun K hK => wp_bslice1 t x ho v hx hr (hK _ _ h)
/-- A list of digests in new memory. -/
def Wy (w : World) (A : List (List UInt8)) (e : Ending) (w' : World) : Prop := ∃ v, e = .returned v ∧ OwnN w' 40 32 v A.length (hsF A) ∧ (∀ g, v.ownBlock = some g → w.heap.size ≤ g) ∧ Turn no w w'
theorem way_app {w w1 : World} {v : Value} {A : List (List UInt8)} {X : List UInt8} (hX : X.length = 32) (hb : A.length ≤ 65537) (O : OwnN w1 40 32 v A.length (hsF A)) (f : ∀ g, v.ownBlock = some g → w.heap.size ≤ g) (T : Turn no w w1) :
    ∃ v2 w2, (Builtin.append_ #[51, 51] 51 #[v, .slice (some ⟨w1.heap.size, 0, none⟩) 1 1]).run Tryz.prog (w1.alloc (.cells (hb32 X) 40)) = .ok v2 w2 ∧ Wy w (A ++ [X]) (.returned v2) w2 := by
  have TX : Turn no w1 (w1.alloc (.cells (hb32 X) 40)) := (Turn.refl no w1).alloc _
  obtain ⟨v2, w2, r2, O2, T2, g2, c2, e2, hc2, hg2⟩ := app_second Tryz.underlying51 info25 rfl (by decide) (T.then_no TX) (O.turn_no TX) f (Row.new w1 (hb32 X) 40) (hb32_size hX) hb32_ones (by omega) (by simp only [maxLen]; omega)
  refine ⟨v2, w2, r2, v2, rfl, ?_, ?_, T2⟩
  · have e : hsF (A ++ [X]) = hsF A ++ (hb32 X).toList := by rw [hsF_append]; simp [hsF, hb32]
    rw [e, List.length_append]
    exact O2
  · intro g hg
    rw [e2] at hg
    cases hg
    exact hg2
set_option maxRecDepth 100000 in
set_option maxHeartbeats 8000000 in
theorem way33 (n : Nat) : ∀ (l : Its) (b o ca a' : Nat) (w : World), l.length = n → Pcs w b o l → n ≤ ca → 1 ≤ n → okL l → a' < n → Laid1 w → 2 ≤ w.heap.size →
    (wayH (txs l) a').length = stepsN n a' ∧ Calls Tryz.prog 70 #[.slice (some ⟨b, o, none⟩) n ca, .int .i64 a'] w (Wy w (wayH (txs l) a')) := by
  induction n using Nat.strongRecOn with
  | _ n ih =>
    intro l b o ca a' w hln hP hca h1 hol ha hl h2
    by_cases h : n = 1
    · subst h
      have e : wayH (txs l) a' = [] := wayH_one _ _ (by rw [txs_len]; exact hln)
      rw [e]
      refine ⟨by rw [stepsN_one]; rfl, ?_⟩
      go_enter Tryz.func70, Tryz.ntmps70
      go_wp2_with fail
      go_ret
      exact ⟨_, rfl, OwnN.nil w 40 32, (fun g q => by cases q), Turn.refl _ _⟩
    · have hk1 := splitN_lt n (by omega)
      have hk2 := splitN_pos n
      have h65 : n ≤ 65536 := by rw [← hln]; exact hol.1
      have hsp := fun W => split_any W n (by omega) h65
      have hml : (txs l).length = n := by rw [txs_len]; exact hln
      by_cases hak : a' < splitN n
      · have e := wayH_left (txs l) a' (by omega) (by rw [hml]; exact hak)
        rw [hml, ← txs_take, ← txs_drop] at e
        have WH : ∀ W, Turn no w W → (wayH (txs (l.take (splitN n))) a').length = stepsN (splitN n) a' ∧ Calls Tryz.prog 70 #[.slice (some ⟨b, o, none⟩) (splitN n) ca, .int .i64 ((a' : Nat) : Int)] W (Wy W (wayH (txs (l.take (splitN n))) a')) := fun W T => ih (splitN n) (by omega) (l.take (splitN n)) b (o) ca a' W (by simp; omega) ((hP.turn_no T).take _) (by omega) (by omega) (hol.take _) (by omega) (hl.turn T (fun q => q)) (by have := T.size; omega)
        have hlen := (WH w (Turn.refl no w)).1
        have WC := shut (fun W T => (WH W T).2)
        have TC : Shut (∀ W, Turn no w W → Calls Tryz.prog 96 #[.slice (some ⟨b, o + splitN n, none⟩) (n - splitN n) (ca - splitN n)] W fun e w' => e = .returned (.agg (hb32 (topH (txs (l.drop (splitN n)))))) ∧ Turn no W w') := fun W T => top_any (n - splitN n) (l.drop (splitN n)) b (o + splitN n) (ca - splitN n) W (by simp; omega) ((hP.turn_no T).drop _) (by omega) (by omega) (by omega) (hol.drop _).2 (hl.turn T (fun q => q)) (by have := T.size; omega)
        have lt := topH_len (txs (l.drop (splitN n)))
        have hb7 : (wayH (txs (l.take (splitN n))) a').length ≤ 65537 := by rw [hlen]; have := stepsN_le (splitN n) a'; omega
        refine ⟨by rw [e, List.length_append, hlen, stepsN_left n a' (by omega) hak]; rfl, ?_⟩
        rw [e]
        clear e WH ih hP hol hln hml hlen
        generalize wayH (txs (l.take (splitN n))) a' = A at *
        generalize topH (txs (l.drop (splitN n))) = X at *
        generalize splitN n = k at *
        have hn1 : ((n : Int) == 1) = false := by simp; omega
        have hkc : (k : Int) ≤ (ca : Int) := by omega
        have hkn : (k : Int) ≤ (n : Int) := by omega
        have hkne : ¬ ca = k := by omega
        have hak' : (a' : Int) < (k : Int) := by omega
        go_enter Tryz.func70, Tryz.ntmps70
        go_upto_region 6 with (go_at_call 95; refine (hsp _).mono ?_; clear hsp; rintro e w' ⟨rfl, hw'⟩; subst hw')
        refine wp_region_held_drew (S := fun W => Turn no w' W) (by kernel_rfl) (Turn.refl no w').drew (fun hHeld => ?_)
        refine' wpAnyH_take (i := 0) (v := .slice (some ⟨b, o, none⟩) n ca) rfl (by kernel_rfl) (by kernel_rfl) (by kernel_rfl) (fun _ _ _ h => h) (Or.inl ⟨by kernel_rfl, fun W hW => ?y1⟩) hHeld ?r1
        · go_simp
        refine' wpAnyH_take (i := 1) (v := .int .i64 k) rfl (by kernel_rfl) (by kernel_rfl) (by kernel_rfl) (fun _ _ _ h => h) (Or.inl ⟨by kernel_rfl, fun W hW => ?y2⟩) hHeld ?r2
        · go_simp
        refine' wpAnyH_take (i := 2) (v := .slice (some ⟨b, o, none⟩) k ca) rfl (by kernel_rfl) (by kernel_rfl) (by kernel_rfl) (fun _ _ _ h => h) (Or.inl ⟨by kernel_rfl, fun W hW => ?y3⟩) hHeld ?r3
        · go_simp
        refine' wpAnyH_take (i := 3) (v := .int .i64 a') rfl (by kernel_rfl) (by kernel_rfl) (by kernel_rfl) (fun _ _ _ h => h) (Or.inl ⟨by kernel_rfl, fun W hW => ?y4⟩) hHeld ?r4
        · go_simp
        refine' wpAnyH_take (i := 5) (v := .slice (some ⟨b, o, none⟩) n ca) rfl (by kernel_rfl) (by kernel_rfl) (by kernel_rfl) (fun _ _ _ h => h) (Or.inl ⟨by kernel_rfl, fun W hW => ?y5⟩) hHeld ?r5
        · go_simp
        refine' wpAnyH_take (i := 6) (v := .int .i64 k) rfl (by kernel_rfl) (by kernel_rfl) (by kernel_rfl) (fun _ _ _ h => h) (Or.inl ⟨by kernel_rfl, fun W hW => ?y6⟩) hHeld ?r6
        · go_simp
        refine' wpAnyH_take (i := 7) (v := .slice (some ⟨b, o + k, none⟩) (n - k) (ca - k)) rfl (by kernel_rfl) (by kernel_rfl) (by kernel_rfl) (fun _ _ _ h => h) (Or.inl ⟨by kernel_rfl, fun W hW => ?y7⟩) hHeld ?r7
        · go_simp
        refine wpAnyH_ready (rs := [4]) (by kernel_rfl) (by simp) ?_
        refine AllReadyH.cons rfl (fun K hK => ?_) AllReadyH.nil
        go_simp
        refine (WC.out _ hHeld).mono ?_
        intro e w3 h3
        obtain ⟨v3, rfl, O3, f3, t3⟩ := h3
        have F3 : ∀ g, v3.ownBlock = some g → w'.heap.size ≤ g := fun g hg => by have := f3 g hg; have := hHeld.size; omega
        obtain ⟨va, vc, ev, _⟩ := O3.form
        refine hK.out _ _ (hHeld.then_no t3) (fun hHeld => ?_)
        clear hK f3
        refine wpAnyH_ready (rs := [8]) (by kernel_rfl) (by simp) ?_
        refine AllReadyH.cons rfl (fun K hK => ?_) AllReadyH.nil
        go_simp
        refine (TC.out _ hHeld).mono ?_
        rintro e w4 ⟨rfl, t4⟩
        refine hK.out _ _ (hHeld.then_no t4) (fun hHeld => ?_)
        clear hK
        obtain ⟨v5, w5, r5, W5⟩ := way_app lt hb7 (O3.turn_no t4) F3 hHeld
        refine wpAnyH_ready (rs := [9]) (by kernel_rfl) (by simp) ?_
        refine AllReadyH.cons rfl (fun K hK => ?_) AllReadyH.nil
        rw [if_pos (by kernel_rfl)]
        refine wp_bslice1 51 _ rfl _ rfl (bsl32 _ X lt) ?_
        refine hK.out _ _ (hHeld.alloc _) (fun hHeld => ?_)
        clear hK
        refine wpAnyH_ready (rs := [10]) (by kernel_rfl) (by simp) ?_
        refine AllReadyH.cons rfl (fun K hK => ?_) AllReadyH.nil
        rw [if_pos (by kernel_rfl)]
        refine wp_append_runT _ _ rfl rfl v3 (.slice (some ⟨w4.heap.size, 0, none⟩) 1 1) (by go_simp) (by go_simp) r5 ?_
        obtain ⟨v6, e6, O6, f6, t6⟩ := W5
        refine hK.out _ _ t6 (fun hHeld => ?_)
        clear hK
        refine' wpAnyH_take (i := 11) (v := v5) rfl (by kernel_rfl) (by kernel_rfl) (by kernel_rfl) (fun _ _ _ h => h) (Or.inl ⟨by kernel_rfl, fun W hW => ?y8⟩) hHeld ?r8
        · go_simp
        refine wpAnyH_done (by kernel_rfl) ?_ _
        go_simp
        go_wp2_with fail
        go_ret
        exact ⟨v6, e6, O6, f6, t6⟩
      · have e := wayH_right (txs l) a' (by omega) (by rw [hml]; exact hak)
        rw [hml, ← txs_drop, ← txs_take] at e
        have WH : ∀ W, Turn no w W → (wayH (txs (l.drop (splitN n))) (a' - splitN n)).length = stepsN (n - splitN n) (a' - splitN n) ∧ Calls Tryz.prog 70 #[.slice (some ⟨b, o + splitN n, none⟩) (n - splitN n) (ca - splitN n), .int .i64 (((a' - splitN n) : Nat) : Int)] W (Wy W (wayH (txs (l.drop (splitN n))) (a' - splitN n))) := fun W T => ih (n - splitN n) (by omega) (l.drop (splitN n)) b (o + splitN n) (ca - splitN n) (a' - splitN n) W (by simp; omega) ((hP.turn_no T).drop _) (by omega) (by omega) (hol.drop _) (by omega) (hl.turn T (fun q => q)) (by have := T.size; omega)
        have hlen := (WH w (Turn.refl no w)).1
        have WC := shut (fun W T => (WH W T).2)
        have TC : Shut (∀ W, Turn no w W → Calls Tryz.prog 96 #[.slice (some ⟨b, o, none⟩) (splitN n) ca] W fun e w' => e = .returned (.agg (hb32 (topH (txs (l.take (splitN n)))))) ∧ Turn no W w') := fun W T => top_any (splitN n) (l.take (splitN n)) b (o) ca W (by simp; omega) ((hP.turn_no T).take _) (by omega) (by omega) (by omega) (hol.take _).2 (hl.turn T (fun q => q)) (by have := T.size; omega)
        have lt := topH_len (txs (l.take (splitN n)))
        have hb7 : (wayH (txs (l.drop (splitN n))) (a' - splitN n)).length ≤ 65537 := by rw [hlen]; have := stepsN_le (n - splitN n) (a' - splitN n); omega
        refine ⟨by rw [e, List.length_append, hlen, stepsN_right n a' (by omega) hak]; rfl, ?_⟩
        rw [e]
        clear e WH ih hP hol hln hml hlen
        generalize wayH (txs (l.drop (splitN n))) (a' - splitN n) = A at *
        generalize topH (txs (l.take (splitN n))) = X at *
        generalize splitN n = k at *
        have hn1 : ((n : Int) == 1) = false := by simp; omega
        have hkc : (k : Int) ≤ (ca : Int) := by omega
        have hkn : (k : Int) ≤ (n : Int) := by omega
        have hkne : ¬ ca = k := by omega
        have hak' : ¬ (a' : Int) < (k : Int) := by omega
        obtain ⟨ak, hak2⟩ : ∃ ak, a' - k = ak := ⟨_, rfl⟩
        have w2 : IntKind.i64.wrap ((a' : Int) - (k : Int)) = (ak : Int) := by rw [IntKind.wrap_i64]; omega
        rw [hak2] at WC
        clear hak2
        go_enter Tryz.func70, Tryz.ntmps70
        go_upto_region 7 with (go_at_call 95; refine (hsp _).mono ?_; clear hsp; rintro e w' ⟨rfl, hw'⟩; subst hw')
        refine wp_region_held_drew (S := fun W => Turn no w' W) (by kernel_rfl) (Turn.refl no w').drew (fun hHeld => ?_)
        refine' wpAnyH_take (i := 0) (v := .slice (some ⟨b, o, none⟩) n ca) rfl (by kernel_rfl) (by kernel_rfl) (by kernel_rfl) (fun _ _ _ h => h) (Or.inl ⟨by kernel_rfl, fun W hW => ?y9⟩) hHeld ?r9
        · go_simp
        refine' wpAnyH_take (i := 1) (v := .int .i64 k) rfl (by kernel_rfl) (by kernel_rfl) (by kernel_rfl) (fun _ _ _ h => h) (Or.inl ⟨by kernel_rfl, fun W hW => ?y10⟩) hHeld ?r10
        · go_simp
        refine' wpAnyH_take (i := 2) (v := .slice (some ⟨b, o + k, none⟩) (n - k) (ca - k)) rfl (by kernel_rfl) (by kernel_rfl) (by kernel_rfl) (fun _ _ _ h => h) (Or.inl ⟨by kernel_rfl, fun W hW => ?y11⟩) hHeld ?r11
        · go_simp
        refine' wpAnyH_take (i := 3) (v := .int .i64 a') rfl (by kernel_rfl) (by kernel_rfl) (by kernel_rfl) (fun _ _ _ h => h) (Or.inl ⟨by kernel_rfl, fun W hW => ?y12⟩) hHeld ?r12
        · go_simp
        refine' wpAnyH_take (i := 4) (v := .int .i64 k) rfl (by kernel_rfl) (by kernel_rfl) (by kernel_rfl) (fun _ _ _ h => h) (Or.inl ⟨by kernel_rfl, fun W hW => ?y13⟩) hHeld ?r13
        · go_simp
        refine' wpAnyH_take (i := 5) (v := .int .i64 ak) rfl (by kernel_rfl) (by kernel_rfl) (by kernel_rfl) (fun _ _ _ h => h) (Or.inl ⟨by kernel_rfl, fun W hW => ?y14⟩) hHeld ?r14
        · go_simp
        refine' wpAnyH_take (i := 7) (v := .slice (some ⟨b, o, none⟩) n ca) rfl (by kernel_rfl) (by kernel_rfl) (by kernel_rfl) (fun _ _ _ h => h) (Or.inl ⟨by kernel_rfl, fun W hW => ?y15⟩) hHeld ?r15
        · go_simp
        refine' wpAnyH_take (i := 8) (v := .int .i64 k) rfl (by kernel_rfl) (by kernel_rfl) (by kernel_rfl) (fun _ _ _ h => h) (Or.inl ⟨by kernel_rfl, fun W hW => ?y16⟩) hHeld ?r16
        · go_simp
        refine' wpAnyH_take (i := 9) (v := .slice (some ⟨b, o, none⟩) k ca) rfl (by kernel_rfl) (by kernel_rfl) (by kernel_rfl) (fun _ _ _ h => h) (Or.inl ⟨by kernel_rfl, fun W hW => ?y17⟩) hHeld ?r17
        · go_simp
        refine wpAnyH_ready (rs := [6]) (by kernel_rfl) (by simp) ?_
        refine AllReadyH.cons rfl (fun K hK => ?_) AllReadyH.nil
        go_simp
        refine (WC.out _ hHeld).mono ?_
        intro e w3 h3
        obtain ⟨v3, rfl, O3, f3, t3⟩ := h3
        have F3 : ∀ g, v3.ownBlock = some g → w'.heap.size ≤ g := fun g hg => by have := f3 g hg; have := hHeld.size; omega
        obtain ⟨va, vc, ev, _⟩ := O3.form
        refine hK.out _ _ (hHeld.then_no t3) (fun hHeld => ?_)
        clear hK f3
        refine wpAnyH_ready (rs := [10]) (by kernel_rfl) (by simp) ?_
        refine AllReadyH.cons rfl (fun K hK => ?_) AllReadyH.nil
        go_simp
        refine (TC.out _ hHeld).mono ?_
        rintro e w4 ⟨rfl, t4⟩
        refine hK.out _ _ (hHeld.then_no t4) (fun hHeld => ?_)
        clear hK
        obtain ⟨v5, w5, r5, W5⟩ := way_app lt hb7 (O3.turn_no t4) F3 hHeld
        refine wpAnyH_ready (rs := [11]) (by kernel_rfl) (by simp) ?_
        refine AllReadyH.cons rfl (fun K hK => ?_) AllReadyH.nil
        rw [if_pos (by kernel_rfl)]
        refine wp_bslice1 51 _ rfl _ rfl (bsl32 _ X lt) ?_
        refine hK.out _ _ (hHeld.alloc _) (fun hHeld => ?_)
        clear hK
        refine wpAnyH_ready (rs := [12]) (by kernel_rfl) (by simp) ?_
        refine AllReadyH.cons rfl (fun K hK => ?_) AllReadyH.nil
        rw [if_pos (by kernel_rfl)]
        refine wp_append_runT _ _ rfl rfl v3 (.slice (some ⟨w4.heap.size, 0, none⟩) 1 1) (by go_simp) (by go_simp) r5 ?_
        obtain ⟨v6, e6, O6, f6, t6⟩ := W5
        refine hK.out _ _ t6 (fun hHeld => ?_)
        clear hK
        refine' wpAnyH_take (i := 13) (v := v5) rfl (by kernel_rfl) (by kernel_rfl) (by kernel_rfl) (fun _ _ _ h => h) (Or.inl ⟨by kernel_rfl, fun W hW => ?y18⟩) hHeld ?r18
        · go_simp
        refine wpAnyH_done (by kernel_rfl) ?_ _
        go_simp
        go_wp2_with fail
        go_ret
        exact ⟨v6, e6, O6, f6, t6⟩
end Go.Proofs.YtaoigopjfelgpaaGreatDoor




/- The document's way; Prove of both. -/
namespace Go.Proofs.YtaoigopjfelgpaaGreatDoor
open Go.RowKit
set_option linter.unusedVariables false

set_option maxRecDepth 100000 in
set_option maxHeartbeats 8000000 in
theorem rway34 (n : Nat) : ∀ (l : Its) (b o ca a' : Nat) (w : World), l.length = n → Pcs w b o l → n ≤ ca → 1 ≤ n → okL l → a' < n → Laid0 w → 2 ≤ w.heap.size →
    (wayH (txs l) a').length = stepsN n a' ∧ Calls Tryz.prog 76 #[.slice (some ⟨b, o, none⟩) n ca, .int .i64 a'] w (Wy w (wayH (txs l) a')) := by
  induction n using Nat.strongRecOn with
  | _ n ih =>
    intro l b o ca a' w hln hP hca h1 hol ha hl h2
    by_cases h : n = 1
    · subst h
      have e : wayH (txs l) a' = [] := wayH_one _ _ (by rw [txs_len]; exact hln)
      rw [e]
      refine ⟨by rw [stepsN_one]; rfl, ?_⟩
      go_enter Tryz.func76, Tryz.ntmps76
      go_wp2_with fail
      go_ret
      exact ⟨_, rfl, OwnN.nil w 40 32, (fun g q => by cases q), Turn.refl _ _⟩
    · have hk1 := splitN_lt n (by omega)
      have hk2 := splitN_pos n
      have h65 : n ≤ 65536 := by rw [← hln]; exact hol.1
      have hsp := fun W => rsplit_any W n (by omega) h65
      have hml : (txs l).length = n := by rw [txs_len]; exact hln
      have hZ := hb32_size z32_len
      have hzv := zero35v
      by_cases hak : a' < splitN n
      · have e := wayH_left (txs l) a' (by omega) (by rw [hml]; exact hak)
        rw [hml, ← txs_take, ← txs_drop] at e
        have WH : ∀ W, Turn no w W → (wayH (txs (l.take (splitN n))) a').length = stepsN (splitN n) a' ∧ Calls Tryz.prog 76 #[.slice (some ⟨b, o, none⟩) (splitN n) ca, .int .i64 ((a' : Nat) : Int)] W (Wy W (wayH (txs (l.take (splitN n))) a')) := fun W T => ih (splitN n) (by omega) (l.take (splitN n)) b (o) ca a' W (by simp; omega) ((hP.turn_no T).take _) (by omega) (by omega) (hol.take _) (by omega) (hl.turn T (fun q => q)) (by have := T.size; omega)
        have hlen := (WH w (Turn.refl no w)).1
        have WC := shut (fun W T => (WH W T).2)
        have tc := rtop_any (n - splitN n) (l.drop (splitN n)) b (o + splitN n) (ca - splitN n) w (by simp; omega) ((hP).drop _) (by omega) (by omega) (by omega) (hol.drop _).2 hl h2
        have lt := topH_len (txs (l.drop (splitN n)))
        have hb7 : (wayH (txs (l.take (splitN n))) a').length ≤ 65537 := by rw [hlen]; have := stepsN_le (splitN n) a'; omega
        refine ⟨by rw [e, List.length_append, hlen, stepsN_left n a' (by omega) hak]; rfl, ?_⟩
        rw [e]
        have tc' : Calls Tryz.prog 102 #[.slice (some ⟨b, o + splitN n, none⟩) (n - splitN n) (ca - splitN n)] w fun e w' => e = .returned (.agg (hb32 (topH (txs (l.drop (splitN n)))))) ∧ Turn no w w' := tc
        clear tc e WH ih hP hol hln hml hlen
        generalize wayH (txs (l.take (splitN n))) a' = A at *
        generalize topH (txs (l.drop (splitN n))) = X at *
        have sX := hb32_size lt
        have oX := hb32_one X
        have iX := hb32_info lt
        have HB := shut (fun W => bsl32 W X lt)
        have HAP : Shut (∀ w1 v, OwnN w1 40 32 v A.length (hsF A) → (∀ g, v.ownBlock = some g → w.heap.size ≤ g) → Turn no w w1 → ∃ v2 w2, (Builtin.append_ #[51, 51] 51 #[v, .slice (some ⟨w1.heap.size, 0, none⟩) 1 1]).run Tryz.prog (w1.alloc (.cells (hb32 X) 40)) = .ok v2 w2 ∧ Wy w (A ++ [X]) (.returned v2) w2) := fun w1 v O f T => way_app lt hb7 O f T
        generalize A ++ [X] = AX at *
        generalize hb32 X = XA at *
        generalize hb32 z32 = Z at *
        generalize splitN n = k at *
        have hn1 : ((n : Int) == 1) = false := by simp; omega
        have hkc : (k : Int) ≤ (ca : Int) := by omega
        have hkn : (k : Int) ≤ (n : Int) := by omega
        have hkne : ¬ ca = k := by omega
        have hak' : (a' : Int) < (k : Int) := by omega
        go_enter Tryz.func76, Tryz.ntmps76
        go_upto_region 6 with (first | (go_at_call 101; refine (hsp _).mono ?_; clear hsp; rintro e w' ⟨rfl, hw'⟩; subst hw') | (go_at_call 102; refine tc'.mono ?_; clear tc'; rintro e wa ⟨rfl, ta⟩) | (guard_target =~ wpList _ _ _ ({ dst := _, op := Op.store 40 _ _, .. } :: _) _ _; refine wpList_store_anyN rfl rfl 40 (.tmp 6) (.tmp 22) rfl _ XA rfl rfl 40 Z (Row.new _ Z 40) iX (by rw [hZ, sX]) oX ?_; intro wb RL tb))
        have TAB : Turn (fun q => q = wa.heap.size) wa wb := ((Turn.refl no wa).alloc _).of_no.trans tb (fun _ _ e => e)
        have TB := ta.trans TAB (fun i hi e => by have := ta.size; omega)
        have wc := WC.out wb TB
        clear TAB ta tb hzv
        generalize wa.heap.size = g6 at *
        go_upto_region 7 with (go_at_call 76; refine wc.mono ?_; clear wc; intro e wd h3; obtain ⟨v3, rfl, O3, f3, t3⟩ := h3)
        have TD := TB.then_no t3
        have RD := Row.turn RL t3 (fun q => q)
        obtain ⟨v5, w5, r5, W5⟩ := HAP.out wd v3 O3 (fun g hg => by have := f3 g hg; have := TB.size; omega) TD
        have bs := HB.out wd
        clear RL t3 O3 f3 HAP HB
        go_wp2_with (first | (guard_target =~ wpList _ _ _ ({ dst := some 29, op := Op.load 40 _, .. } :: _) _ _; refine wpList_load_row rfl 40 (.tmp 6) rfl g6 rfl 40 XA _ _ RD Tryz.underlying40 rfl iX ?_) | (guard_target =~ wpList _ _ _ ({ dst := some 30, op := Op.buildSlice _ _ _, .. } :: _) _ _; refine wpList_bslice1 rfl 51 (.tmp 29) rfl _ rfl _ _ bs ?_) | (guard_target =~ wpList _ _ _ ({ dst := some 31, op := Op.call _, .. } :: _) _ _; at_builtin; refine wpList_append_run rfl (.tmp 28) (.tmp 30) rfl _ _ rfl rfl r5 ?_))
        go_ret
        exact W5
      · have e := wayH_right (txs l) a' (by omega) (by rw [hml]; exact hak)
        rw [hml, ← txs_drop, ← txs_take] at e
        have WH : ∀ W, Turn no w W → (wayH (txs (l.drop (splitN n))) (a' - splitN n)).length = stepsN (n - splitN n) (a' - splitN n) ∧ Calls Tryz.prog 76 #[.slice (some ⟨b, o + splitN n, none⟩) (n - splitN n) (ca - splitN n), .int .i64 (((a' - splitN n) : Nat) : Int)] W (Wy W (wayH (txs (l.drop (splitN n))) (a' - splitN n))) := fun W T => ih (n - splitN n) (by omega) (l.drop (splitN n)) b (o + splitN n) (ca - splitN n) (a' - splitN n) W (by simp; omega) ((hP.turn_no T).drop _) (by omega) (by omega) (hol.drop _) (by omega) (hl.turn T (fun q => q)) (by have := T.size; omega)
        have hlen := (WH w (Turn.refl no w)).1
        have WC := shut (fun W T => (WH W T).2)
        have tc := rtop_any (splitN n) (l.take (splitN n)) b (o) ca w (by simp; omega) ((hP).take _) (by omega) (by omega) (by omega) (hol.take _).2 hl h2
        have lt := topH_len (txs (l.take (splitN n)))
        have hb7 : (wayH (txs (l.drop (splitN n))) (a' - splitN n)).length ≤ 65537 := by rw [hlen]; have := stepsN_le (n - splitN n) (a' - splitN n); omega
        refine ⟨by rw [e, List.length_append, hlen, stepsN_right n a' (by omega) hak]; rfl, ?_⟩
        rw [e]
        have tc' : Calls Tryz.prog 102 #[.slice (some ⟨b, o, none⟩) (splitN n) ca] w fun e w' => e = .returned (.agg (hb32 (topH (txs (l.take (splitN n)))))) ∧ Turn no w w' := tc
        clear tc e WH ih hP hol hln hml hlen
        generalize wayH (txs (l.drop (splitN n))) (a' - splitN n) = A at *
        generalize topH (txs (l.take (splitN n))) = X at *
        have sX := hb32_size lt
        have oX := hb32_one X
        have iX := hb32_info lt
        have HB := shut (fun W => bsl32 W X lt)
        have HAP : Shut (∀ w1 v, OwnN w1 40 32 v A.length (hsF A) → (∀ g, v.ownBlock = some g → w.heap.size ≤ g) → Turn no w w1 → ∃ v2 w2, (Builtin.append_ #[51, 51] 51 #[v, .slice (some ⟨w1.heap.size, 0, none⟩) 1 1]).run Tryz.prog (w1.alloc (.cells (hb32 X) 40)) = .ok v2 w2 ∧ Wy w (A ++ [X]) (.returned v2) w2) := fun w1 v O f T => way_app lt hb7 O f T
        generalize A ++ [X] = AX at *
        generalize hb32 X = XA at *
        generalize hb32 z32 = Z at *
        generalize splitN n = k at *
        have hn1 : ((n : Int) == 1) = false := by simp; omega
        have hkc : (k : Int) ≤ (ca : Int) := by omega
        have hkn : (k : Int) ≤ (n : Int) := by omega
        have hkne : ¬ ca = k := by omega
        have hak' : ¬ (a' : Int) < (k : Int) := by omega
        obtain ⟨ak, hak2⟩ : ∃ ak, a' - k = ak := ⟨_, rfl⟩
        have w2 : IntKind.i64.wrap ((a' : Int) - (k : Int)) = (ak : Int) := by rw [IntKind.wrap_i64]; omega
        rw [hak2] at WC
        clear hak2
        go_enter Tryz.func76, Tryz.ntmps76
        go_upto_region 9 with (first | (go_at_call 101; refine (hsp _).mono ?_; clear hsp; rintro e w' ⟨rfl, hw'⟩; subst hw') | (go_at_call 102; refine tc'.mono ?_; clear tc'; rintro e wa ⟨rfl, ta⟩) | (guard_target =~ wpList _ _ _ ({ dst := _, op := Op.store 40 _ _, .. } :: _) _ _; refine wpList_store_anyN rfl rfl 40 (.tmp 8) (.tmp 35) rfl _ XA rfl rfl 40 Z (Row.new _ Z 40) iX (by rw [hZ, sX]) oX ?_; intro wb RL tb))
        have TAB : Turn (fun q => q = wa.heap.size) wa wb := ((Turn.refl no wa).alloc _).of_no.trans tb (fun _ _ e => e)
        have TB := ta.trans TAB (fun i hi e => by have := ta.size; omega)
        have wc := WC.out wb TB
        clear TAB ta tb hzv
        generalize wa.heap.size = g6 at *
        go_upto_region 10 with (go_at_call 76; refine wc.mono ?_; clear wc; intro e wd h3; obtain ⟨v3, rfl, O3, f3, t3⟩ := h3)
        have TD := TB.then_no t3
        have RD := Row.turn RL t3 (fun q => q)
        obtain ⟨v5, w5, r5, W5⟩ := HAP.out wd v3 O3 (fun g hg => by have := f3 g hg; have := TB.size; omega) TD
        have bs := HB.out wd
        clear RL t3 O3 f3 HAP HB
        go_wp2_with (first | (guard_target =~ wpList _ _ _ ({ dst := some 44, op := Op.load 40 _, .. } :: _) _ _; refine wpList_load_row rfl 40 (.tmp 8) rfl g6 rfl 40 XA _ _ RD Tryz.underlying40 rfl iX ?_) | (guard_target =~ wpList _ _ _ ({ dst := some 45, op := Op.buildSlice _ _ _, .. } :: _) _ _; refine wpList_bslice1 rfl 51 (.tmp 44) rfl _ rfl _ _ bs ?_) | (guard_target =~ wpList _ _ _ ({ dst := some 46, op := Op.call _, .. } :: _) _ _; at_builtin; refine wpList_append_run rfl (.tmp 43) (.tmp 45) rfl _ _ rfl rfl r5 ?_))
        go_ret
        exact W5
end Go.Proofs.YtaoigopjfelgpaaGreatDoor




/- Prove of both. -/
namespace Go.Proofs.YtaoigopjfelgpaaGreatDoor
open Go.RowKit
set_option linter.unusedVariables false

/-- What Prove answers: the number, and whether there is a proof. -/
def prE (l : Its) (i : Int) : Int := if bigOf (txs l) = true then 4 else if i < 0 ∨ (l.length : Int) ≤ i then 2 else 0
def prA (l : Its) (i : Int) : List (List UInt8) := if prE l i = 0 then wayH (txs l) i.toNat else []
def prT (l : Its) (i : Int) : Int := if prE l i = 0 then l.length else 0
def prI (l : Its) (i : Int) : Int := if prE l i = 0 then i else 0
/-- A proof in new memory. -/
def Pv (w : World) (l : Its) (i : Int) (e : Ending) (w' : World) : Prop := ∃ v, e = .returned (.tuple #[.agg #[.int .i64 (prT l i), .int .i64 (prI l i), v], .int .i64 (prE l i)]) ∧ OwnN w' 40 32 v (prA l i).length (hsF (prA l i)) ∧ (∀ g, v.ownBlock = some g → w.heap.size ≤ g) ∧ Turn no w w'
theorem Pv.no {w w' : World} {l : Its} {i : Int} {e : Ending} (er : Int) (he : prE l i = er) (hz : er ≠ 0) (h : e = .returned (.tuple #[.agg #[.int .i64 0, .int .i64 0, .slice none 0 0], .int .i64 er])) (t : Turn no w w') : Pv w l i e w' := by
  have h0 : ¬ prE l i = 0 := by rw [he]; exact hz
  refine ⟨.slice none 0 0, ?_, ?_, (fun g q => by cases q), t⟩
  · rw [h, he]
    unfold prT prI
    rw [if_neg h0, if_neg h0]
  · unfold prA
    rw [if_neg h0]
    exact OwnN.nil w' 40 32
theorem zp_one : (#[Value.int .i64 0, .int .i64 0, .slice none 0 0].all (·.oneCell')) = true := by simp [Value.oneCell']
theorem size34 : (Tryz.prog.info? 53).map (·.size) = some 3 := by kernel_rfl
set_option maxRecDepth 100000 in
set_option maxHeartbeats 8000000 in
theorem prove14 (w : World) (a : Option Addr) (ca : Nat) (l : Its) (i : Int) (h : BlAt w a ca l) (hl : Laid1 w) (h2 : 2 ≤ w.heap.size) : Calls Tryz.prog 45 #[.slice a l.length ca, .int .i64 i] w (Pv w l i) := by
  obtain ⟨Z, hZ⟩ : ∃ Z : Array Value, Z = #[.int .i64 0, .int .i64 0, .slice none 0 0] := ⟨_, rfl⟩
  obtain ⟨w0, hw0⟩ : ∃ w0, w.alloc (.cells #[.int .i64 0, .int .i64 0, .slice none 0 0] 53) = w0 := ⟨_, rfl⟩
  have T0 : Turn no w w0 := by rw [← hw0]; exact (Turn.refl no w).alloc _
  have RZ : Row w0 w.heap.size #[.int .i64 0, .int .i64 0, .slice none 0 0] 53 := by rw [← hw0]; exact Row.new w _ 53
  have hb := big_all (h.turn_no T0)
  clear hZ Z
  cases hbg : bigOf (txs l) with
  | true =>
    have e1 : prE l i = 4 := if_pos hbg
    rw [hbg] at hb
    have HE := shut e1
    generalize hln : l.length = n at *
    clear hbg h e1 hln
    go_enter Tryz.func45, Tryz.ntmps45
    go_upto_region 1 with fail
    try rw [hw0]
    clear hw0
    go_wp2_with (first | (go_at_call 69; refine hb.mono ?_; clear hb; rintro e w1 ⟨rfl, hw1⟩; subst hw1) | (guard_target =~ wpList _ _ _ ({ dst := _, op := Op.store 53 _ _, .. } :: _) _ _; refine wpList_store_row rfl 53 (.tmp 4) (.tmp 8) rfl w.heap.size #[.int .i64 0, .int .i64 0, .slice none 0 0] rfl rfl 53 _ RZ size34 rfl zp_one ?_))
    refine bodyPost_ret (v := .tuple #[.agg #[.int .i64 0, .int .i64 0, .slice none 0 0], .int .i64 4]) ?_ rfl ?_
    · exact results_cell_row_tmp (P := Tryz.prog) Tryz.results45 _ _ w.heap.size 53 #[.int .i64 0, .int .i64 0, .slice none 0 0] (0, 0) _ rfl (setRow_heap _ _ _ _ _ _ RZ) Tryz.underlying53 rfl size34
    · exact Pv.no 4 HE.out (by decide) rfl (T0.setRow w.heap.size _ (fun q => absurd q (Nat.lt_irrefl _)))
  | false =>
    have ho := (big_of l).1 hbg
    rw [hbg] at hb
    by_cases hi : i < 0 ∨ (l.length : Int) ≤ i
    · have e1 : prE l i = 2 := by unfold prE; rw [if_neg (by rw [hbg]; decide), if_pos hi]
      have HE := shut e1
      generalize hln : l.length = n at *
      clear hbg h e1 hln ho
      by_cases hi0 : i < 0
      · clear hi
        go_enter Tryz.func45, Tryz.ntmps45
        go_upto_region 1 with fail
        try rw [hw0]
        clear hw0
        go_wp2_with (first | (go_at_call 69; refine hb.mono ?_; clear hb; rintro e w1 ⟨rfl, hw1⟩; subst hw1) | (guard_target =~ wpList _ _ _ ({ dst := _, op := Op.store 53 _ _, .. } :: _) _ _; refine wpList_store_row rfl 53 (.tmp 4) (.tmp 17) rfl w.heap.size #[.int .i64 0, .int .i64 0, .slice none 0 0] rfl rfl 53 _ RZ size34 rfl zp_one ?_))
        refine bodyPost_ret (v := .tuple #[.agg #[.int .i64 0, .int .i64 0, .slice none 0 0], .int .i64 2]) ?_ rfl ?_
        · exact results_cell_row_tmp (P := Tryz.prog) Tryz.results45 _ _ w.heap.size 53 #[.int .i64 0, .int .i64 0, .slice none 0 0] (0, 0) _ rfl (setRow_heap _ _ _ _ _ _ RZ) Tryz.underlying53 rfl size34
        · exact Pv.no 2 HE.out (by decide) rfl (T0.setRow w.heap.size _ (fun q => absurd q (Nat.lt_irrefl _)))
      · have hin : (n : Int) ≤ i := by omega
        clear hi
        go_enter Tryz.func45, Tryz.ntmps45
        go_upto_region 1 with fail
        try rw [hw0]
        clear hw0
        go_wp2_with (first | (go_at_call 69; refine hb.mono ?_; clear hb; rintro e w1 ⟨rfl, hw1⟩; subst hw1) | (guard_target =~ wpList _ _ _ ({ dst := _, op := Op.store 53 _ _, .. } :: _) _ _; refine wpList_store_row rfl 53 (.tmp 4) (.tmp 17) rfl w.heap.size #[.int .i64 0, .int .i64 0, .slice none 0 0] rfl rfl 53 _ RZ size34 rfl zp_one ?_))
        refine bodyPost_ret (v := .tuple #[.agg #[.int .i64 0, .int .i64 0, .slice none 0 0], .int .i64 2]) ?_ rfl ?_
        · exact results_cell_row_tmp (P := Tryz.prog) Tryz.results45 _ _ w.heap.size 53 #[.int .i64 0, .int .i64 0, .slice none 0 0] (0, 0) _ rfl (setRow_heap _ _ _ _ _ _ RZ) Tryz.underlying53 rfl size34
        · exact Pv.no 2 HE.out (by decide) rfl (T0.setRow w.heap.size _ (fun q => absurd q (Nat.lt_irrefl _)))
    · have e1 : prE l i = 0 := by unfold prE; rw [if_neg (by rw [hbg]; decide), if_neg hi]
      obtain ⟨k, rfl⟩ : ∃ k : Nat, i = (k : Int) := ⟨i.toNat, by omega⟩
      have hkn : k < l.length := by omega
      have hW : Calls Tryz.prog 70 #[.slice a l.length ca, .int .i64 k] w0 (Wy w0 (wayH (txs l) k)) := by
        rcases (h.turn_no T0).pcs with q | ⟨b, o, rfl, p⟩
        · rw [q] at hkn; simp at hkn
        · exact (way33 l.length l b o ca k w0 rfl p h.le (by omega) ho hkn (hl.turn T0 (fun q => q)) (by have := T0.size; omega)).2
      have HA : Shut (prA l k = wayH (txs l) k ∧ prT l k = l.length ∧ prI l k = k) := by
        unfold prA prT prI
        rw [if_pos e1, if_pos e1, if_pos e1]
        exact ⟨rfl, rfl, rfl⟩
      have HE := shut e1
      have hi0 : ¬ (k : Int) < 0 := by omega
      have hi1 : ¬ (l.length : Int) ≤ (k : Int) := by omega
      clear hbg h e1 ho hi hl
      generalize wayH (txs l) k = A at *
      obtain ⟨n, hn⟩ : ∃ n, l.length = n := ⟨_, rfl⟩
      rw [hn] at HA hW hi1 hb ⊢
      clear hn hkn
      go_enter Tryz.func45, Tryz.ntmps45
      go_upto_region 1 with fail
      try rw [hw0]
      clear hw0
      go_wp2_with (first | (go_at_call 69; refine hb.mono ?_; clear hb; rintro e w1 ⟨rfl, hw1⟩; subst hw1) | (go_at_call 70; refine hW.mono ?_; clear hW; intro e w3 h3; obtain ⟨v3, rfl, O3, f3, t3⟩ := h3; obtain ⟨va, vc, rfl, _⟩ := O3.form; have RZ3 := Row.turn RZ t3 (fun q => q); have hlv : (#[Value.int .i64 n, .int .i64 k, .slice va A.length vc].all (·.oneCell')) = true := by simp [Value.oneCell']) | (guard_target =~ wpList _ _ _ ({ dst := _, op := Op.store 53 _ _, .. } :: _) _ _; refine wpList_store_row rfl 53 (.tmp 4) (.tmp 24) rfl w.heap.size #[.int .i64 n, .int .i64 k, .slice va A.length vc] rfl rfl 53 _ RZ3 size34 rfl hlv ?_))
      have TS : Turn (fun q => q = w.heap.size) w3 (w3.setRow w.heap.size #[.int .i64 n, .int .i64 k, .slice va A.length vc]) := (Turn.refl _ w3).setRow _ _ (fun _ => rfl)
      have hg0 : w.heap.size < w1.heap.size := RZ.lt
      refine bodyPost_ret (v := .tuple #[.agg #[.int .i64 n, .int .i64 k, .slice va A.length vc], .int .i64 0]) ?_ rfl ⟨.slice va A.length vc, ?_, ?_, fun g hg => by have := f3 g hg; omega, (T0.then_no t3).trans TS (fun i hi q => by omega)⟩
      · exact results_cell_row_tmp (P := Tryz.prog) Tryz.results45 _ _ w.heap.size 53 #[.int .i64 n, .int .i64 k, .slice va A.length vc] (0, 0) _ rfl (setRow_heap _ _ _ _ _ _ RZ3) Tryz.underlying53 rfl size34
      · rw [HA.out.2.1, HA.out.2.2, HE.out]
      · rw [HA.out.1]
        exact O3.turn TS (fun g hg q => by have := f3 g hg; omega)
set_option maxRecDepth 100000 in
set_option maxHeartbeats 8000000 in
theorem prove15 (w : World) (a : Option Addr) (ca : Nat) (l : Its) (i : Int) (h : BlAt w a ca l) (hl : Laid0 w) (h2 : 2 ≤ w.heap.size) : Calls Tryz.prog 50 #[.slice a l.length ca, .int .i64 i] w (Pv w l i) := by
  obtain ⟨Z, hZ⟩ : ∃ Z : Array Value, Z = #[.int .i64 0, .int .i64 0, .slice none 0 0] := ⟨_, rfl⟩
  obtain ⟨w0, hw0⟩ : ∃ w0, w.alloc (.cells #[.int .i64 0, .int .i64 0, .slice none 0 0] 53) = w0 := ⟨_, rfl⟩
  have T0 : Turn no w w0 := by rw [← hw0]; exact (Turn.refl no w).alloc _
  have RZ : Row w0 w.heap.size #[.int .i64 0, .int .i64 0, .slice none 0 0] 53 := by rw [← hw0]; exact Row.new w _ 53
  have hb := rbig_all (h.turn_no T0)
  clear hZ Z
  cases hbg : bigOf (txs l) with
  | true =>
    have e1 : prE l i = 4 := if_pos hbg
    rw [hbg] at hb
    have HE := shut e1
    generalize hln : l.length = n at *
    clear hbg h e1 hln
    go_enter Tryz.func50, Tryz.ntmps50
    go_upto_region 1 with fail
    try rw [hw0]
    clear hw0
    go_wp2_with (first | (go_at_call 75; refine hb.mono ?_; clear hb; rintro e w1 ⟨rfl, hw1⟩; subst hw1) | (guard_target =~ wpList _ _ _ ({ dst := _, op := Op.store 53 _ _, .. } :: _) _ _; refine wpList_store_row rfl 53 (.tmp 4) (.tmp 9) rfl w.heap.size #[.int .i64 0, .int .i64 0, .slice none 0 0] rfl rfl 53 _ RZ size34 rfl zp_one ?_))
    refine bodyPost_ret (v := .tuple #[.agg #[.int .i64 0, .int .i64 0, .slice none 0 0], .int .i64 4]) ?_ rfl ?_
    · exact results_cell_row_tmp (P := Tryz.prog) Tryz.results50 _ _ w.heap.size 53 #[.int .i64 0, .int .i64 0, .slice none 0 0] (0, 0) _ rfl (setRow_heap _ _ _ _ _ _ RZ) Tryz.underlying53 rfl size34
    · exact Pv.no 4 HE.out (by decide) rfl (T0.setRow w.heap.size _ (fun q => absurd q (Nat.lt_irrefl _)))
  | false =>
    have ho := (big_of l).1 hbg
    rw [hbg] at hb
    by_cases hi : i < 0 ∨ (l.length : Int) ≤ i
    · have e1 : prE l i = 2 := by unfold prE; rw [if_neg (by rw [hbg]; decide), if_pos hi]
      have HE := shut e1
      generalize hln : l.length = n at *
      clear hbg h e1 hln ho
      by_cases hi0 : i < 0
      · clear hi
        go_enter Tryz.func50, Tryz.ntmps50
        go_upto_region 1 with fail
        try rw [hw0]
        clear hw0
        go_wp2_with (first | (go_at_call 75; refine hb.mono ?_; clear hb; rintro e w1 ⟨rfl, hw1⟩; subst hw1) | (guard_target =~ wpList _ _ _ ({ dst := _, op := Op.store 53 _ _, .. } :: _) _ _; refine wpList_store_row rfl 53 (.tmp 4) (.tmp 18) rfl w.heap.size #[.int .i64 0, .int .i64 0, .slice none 0 0] rfl rfl 53 _ RZ size34 rfl zp_one ?_))
        refine bodyPost_ret (v := .tuple #[.agg #[.int .i64 0, .int .i64 0, .slice none 0 0], .int .i64 2]) ?_ rfl ?_
        · exact results_cell_row_tmp (P := Tryz.prog) Tryz.results50 _ _ w.heap.size 53 #[.int .i64 0, .int .i64 0, .slice none 0 0] (0, 0) _ rfl (setRow_heap _ _ _ _ _ _ RZ) Tryz.underlying53 rfl size34
        · exact Pv.no 2 HE.out (by decide) rfl (T0.setRow w.heap.size _ (fun q => absurd q (Nat.lt_irrefl _)))
      · have hin : (n : Int) ≤ i := by omega
        clear hi
        go_enter Tryz.func50, Tryz.ntmps50
        go_upto_region 1 with fail
        try rw [hw0]
        clear hw0
        go_wp2_with (first | (go_at_call 75; refine hb.mono ?_; clear hb; rintro e w1 ⟨rfl, hw1⟩; subst hw1) | (guard_target =~ wpList _ _ _ ({ dst := _, op := Op.store 53 _ _, .. } :: _) _ _; refine wpList_store_row rfl 53 (.tmp 4) (.tmp 18) rfl w.heap.size #[.int .i64 0, .int .i64 0, .slice none 0 0] rfl rfl 53 _ RZ size34 rfl zp_one ?_))
        refine bodyPost_ret (v := .tuple #[.agg #[.int .i64 0, .int .i64 0, .slice none 0 0], .int .i64 2]) ?_ rfl ?_
        · exact results_cell_row_tmp (P := Tryz.prog) Tryz.results50 _ _ w.heap.size 53 #[.int .i64 0, .int .i64 0, .slice none 0 0] (0, 0) _ rfl (setRow_heap _ _ _ _ _ _ RZ) Tryz.underlying53 rfl size34
        · exact Pv.no 2 HE.out (by decide) rfl (T0.setRow w.heap.size _ (fun q => absurd q (Nat.lt_irrefl _)))
    · have e1 : prE l i = 0 := by unfold prE; rw [if_neg (by rw [hbg]; decide), if_neg hi]
      obtain ⟨k, rfl⟩ : ∃ k : Nat, i = (k : Int) := ⟨i.toNat, by omega⟩
      have hkn : k < l.length := by omega
      have hW : Calls Tryz.prog 76 #[.slice a l.length ca, .int .i64 k] w0 (Wy w0 (wayH (txs l) k)) := by
        rcases (h.turn_no T0).pcs with q | ⟨b, o, rfl, p⟩
        · rw [q] at hkn; simp at hkn
        · exact (rway34 l.length l b o ca k w0 rfl p h.le (by omega) ho hkn (hl.turn T0 (fun q => q)) (by have := T0.size; omega)).2
      have HA : Shut (prA l k = wayH (txs l) k ∧ prT l k = l.length ∧ prI l k = k) := by
        unfold prA prT prI
        rw [if_pos e1, if_pos e1, if_pos e1]
        exact ⟨rfl, rfl, rfl⟩
      have HE := shut e1
      have hi0 : ¬ (k : Int) < 0 := by omega
      have hi1 : ¬ (l.length : Int) ≤ (k : Int) := by omega
      clear hbg h e1 ho hi hl
      generalize wayH (txs l) k = A at *
      obtain ⟨n, hn⟩ : ∃ n, l.length = n := ⟨_, rfl⟩
      rw [hn] at HA hW hi1 hb ⊢
      clear hn hkn
      go_enter Tryz.func50, Tryz.ntmps50
      go_upto_region 1 with fail
      try rw [hw0]
      clear hw0
      go_wp2_with (first | (go_at_call 75; refine hb.mono ?_; clear hb; rintro e w1 ⟨rfl, hw1⟩; subst hw1) | (go_at_call 76; refine hW.mono ?_; clear hW; intro e w3 h3; obtain ⟨v3, rfl, O3, f3, t3⟩ := h3; obtain ⟨va, vc, rfl, _⟩ := O3.form; have RZ3 := Row.turn RZ t3 (fun q => q); have hlv : (#[Value.int .i64 n, .int .i64 k, .slice va A.length vc].all (·.oneCell')) = true := by simp [Value.oneCell']) | (guard_target =~ wpList _ _ _ ({ dst := _, op := Op.store 53 _ _, .. } :: _) _ _; refine wpList_store_row rfl 53 (.tmp 4) (.tmp 26) rfl w.heap.size #[.int .i64 n, .int .i64 k, .slice va A.length vc] rfl rfl 53 _ RZ3 size34 rfl hlv ?_))
      have TS : Turn (fun q => q = w.heap.size) w3 (w3.setRow w.heap.size #[.int .i64 n, .int .i64 k, .slice va A.length vc]) := (Turn.refl _ w3).setRow _ _ (fun _ => rfl)
      have hg0 : w.heap.size < w1.heap.size := RZ.lt
      refine bodyPost_ret (v := .tuple #[.agg #[.int .i64 n, .int .i64 k, .slice va A.length vc], .int .i64 0]) ?_ rfl ⟨.slice va A.length vc, ?_, ?_, fun g hg => by have := f3 g hg; omega, (T0.then_no t3).trans TS (fun i hi q => by omega)⟩
      · exact results_cell_row_tmp (P := Tryz.prog) Tryz.results50 _ _ w.heap.size 53 #[.int .i64 n, .int .i64 k, .slice va A.length vc] (0, 0) _ rfl (setRow_heap _ _ _ _ _ _ RZ3) Tryz.underlying53 rfl size34
      · rw [HA.out.2.1, HA.out.2.2, HE.out]
      · rw [HA.out.1]
        exact O3.turn TS (fun g hg q => by have := f3 g hg; omega)
end Go.Proofs.YtaoigopjfelgpaaGreatDoor




/- The digests of a way are of 32 bytes. -/
namespace Go.Proofs.YtaoigopjfelgpaaGreatDoor
open Go.RowKit
set_option linter.unusedVariables false

theorem wayH_all (n : Nat) : ∀ (l : List (List UInt8)) (a : Nat), l.length = n → 1 ≤ n → a < n → ∀ m ∈ wayH l a, m.length = 32 := by
  induction n using Nat.strongRecOn with
  | _ n ih =>
    intro l a hln h1 ha
    by_cases h : n = 1
    · subst h
      rw [wayH_one l a hln]
      simp
    · have hk1 := splitN_lt n (by omega)
      have hk2 := splitN_pos n
      by_cases hak : a < splitN n
      · have e := wayH_left l a (by omega) (by rw [hln]; exact hak)
        rw [e, hln]
        intro m hm
        rcases List.mem_append.1 hm with q | q
        · exact ih (splitN n) hk1 (l.take (splitN n)) a (by simp; omega) hk2 hak m q
        · simp at q; rw [q]; exact topH_len _
      · have e := wayH_right l a (by omega) (by rw [hln]; exact hak)
        rw [e, hln]
        intro m hm
        rcases List.mem_append.1 hm with q | q
        · exact ih (n - splitN n) (by omega) (l.drop (splitN n)) (a - splitN n) (by simp; omega) (by omega) (by omega) m q
        · simp at q; rw [q]; exact topH_len _
theorem prE_zero {l : Its} {i : Int} (h : prE l i = 0) : okL l ∧ ∃ k : Nat, i = k ∧ k < l.length := by
  unfold prE at h
  split at h
  · cases h
  · rename_i q
    split at h
    · cases h
    · rename_i q2
      refine ⟨(big_of l).1 (by simpa using q), i.toNat, ?_, ?_⟩ <;> omega
theorem prA_all (l : Its) (i : Int) : ∀ m ∈ prA l i, m.length = 32 := by
  unfold prA
  split
  · rename_i h
    obtain ⟨_, k, rfl, hk⟩ := prE_zero h
    exact wayH_all l.length (txs l) _ (txs_len l) (by omega) (by simpa using hk)
  · simp
end Go.Proofs.YtaoigopjfelgpaaGreatDoor


