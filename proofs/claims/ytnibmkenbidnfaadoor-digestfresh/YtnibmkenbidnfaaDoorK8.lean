/- way of both. -/
import Derived.Test.YtnibmkenbidnfaaDoorK1
namespace Go.Proofs.YtnibmkenbidnfaaDoor
open Go.RowKit
set_option linter.unusedVariables false

theorem txs_take (l : Its) (k : Nat) : txs (l.take k) = (txs l).take k := by simp [txs, List.map_take]
theorem txs_drop (l : Its) (k : Nat) : txs (l.drop k) = (txs l).drop k := by simp [txs, List.map_drop]
theorem okL.take {l : Its} (h : okL l) (k : Nat) : okL (l.take k) := ⟨by have := h.1; simp; omega, fun x hx => h.2 x (List.mem_of_mem_take hx)⟩
theorem okL.drop {l : Its} (h : okL l) (k : Nat) : okL (l.drop k) := ⟨by have := h.1; simp; omega, fun x hx => h.2 x (List.mem_of_mem_drop hx)⟩

def wayF : Nat → List (List UInt8) → Nat → List (List UInt8)
  | 0, _, _ => []
  | f + 1, l, a => if l.length ≤ 1 then [] else if a < splitN l.length then wayF f (l.take (splitN l.length)) a ++ [topH (l.drop (splitN l.length))] else wayF f (l.drop (splitN l.length)) (a - splitN l.length) ++ [topH (l.take (splitN l.length))]
theorem wayF_more : ∀ (f : Nat) (l : List (List UInt8)) (a : Nat), l.length ≤ f → wayF (f + 1) l a = wayF f l a
  | 0, l, a, h => by
    show (if l.length ≤ 1 then [] else _) = []
    rw [if_pos (by omega)]
  | f + 1, l, a, h => by
    show (if l.length ≤ 1 then [] else if a < splitN l.length then wayF (f + 1) (l.take (splitN l.length)) a ++ [topH (l.drop (splitN l.length))] else wayF (f + 1) (l.drop (splitN l.length)) (a - splitN l.length) ++ [topH (l.take (splitN l.length))]) = (if l.length ≤ 1 then [] else if a < splitN l.length then wayF f (l.take (splitN l.length)) a ++ [topH (l.drop (splitN l.length))] else wayF f (l.drop (splitN l.length)) (a - splitN l.length) ++ [topH (l.take (splitN l.length))])
    by_cases h1 : l.length ≤ 1
    · rw [if_pos h1, if_pos h1]
    · have h2 := splitN_lt l.length (by omega)
      have h3 := splitN_pos l.length
      rw [if_neg h1, if_neg h1, wayF_more f _ a (by simp; omega), wayF_more f _ (a - splitN l.length) (by simp; omega)]
/-- What stands beside a place's way. -/
def wayH (l : List (List UInt8)) (a : Nat) : List (List UInt8) := wayF l.length l a
theorem wayF_eq (f : Nat) (l : List (List UInt8)) (a : Nat) (h : l.length ≤ f) : wayF f l a = wayH l a := by
  obtain ⟨d, rfl⟩ : ∃ d, f = l.length + d := ⟨f - l.length, by omega⟩
  induction d with
  | zero => rfl
  | succ d ih => rw [← Nat.add_assoc, wayF_more _ l a (by omega)]; exact ih (by omega)
theorem wayH_one (l : List (List UInt8)) (a : Nat) (h : l.length = 1) : wayH l a = [] := by
  unfold wayH
  rw [h]
  show (if l.length ≤ 1 then [] else _) = []
  rw [if_pos (by omega)]
theorem wayH_left (l : List (List UInt8)) (a : Nat) (h : 2 ≤ l.length) (ha : a < splitN l.length) : wayH l a = wayH (l.take (splitN l.length)) a ++ [topH (l.drop (splitN l.length))] := by
  obtain ⟨m, hm⟩ : ∃ m, l.length = m + 1 := ⟨l.length - 1, by omega⟩
  have h2 := splitN_lt l.length (by omega)
  have e : wayH l a = wayF (m + 1) l a := by unfold wayH; rw [hm]
  rw [e]
  show (if l.length ≤ 1 then [] else if a < splitN l.length then wayF m (l.take (splitN l.length)) a ++ [topH (l.drop (splitN l.length))] else _) = _
  rw [if_neg (by omega), if_pos ha, wayF_eq m _ _ (by simp; omega)]
theorem wayH_right (l : List (List UInt8)) (a : Nat) (h : 2 ≤ l.length) (ha : ¬ a < splitN l.length) : wayH l a = wayH (l.drop (splitN l.length)) (a - splitN l.length) ++ [topH (l.take (splitN l.length))] := by
  obtain ⟨m, hm⟩ : ∃ m, l.length = m + 1 := ⟨l.length - 1, by omega⟩
  have h2 := splitN_lt l.length (by omega)
  have h3 := splitN_pos l.length
  have e : wayH l a = wayF (m + 1) l a := by unfold wayH; rw [hm]
  rw [e]
  show (if l.length ≤ 1 then [] else if a < splitN l.length then _ else wayF m (l.drop (splitN l.length)) (a - splitN l.length) ++ [topH (l.take (splitN l.length))]) = _
  rw [if_neg (by omega), if_neg ha, wayF_eq m _ _ (by simp; omega)]
theorem info25 : (Tryd.prog.info? 35).map (fun i => (i.zero, i.size, i.bytes)) = some (some (.agg (hb32 z32)), 32, 32) := by kernel_rfl
theorem hb32_ones {X : List UInt8} : ∀ u ∈ (hb32 X).toList, u.oneCell' = true := by
  intro u hu
  simp only [hb32, List.mem_map] at hu
  obtain ⟨b, _, rfl⟩ := hu
  rfl
theorem bsl32 (w : World) (X : List UInt8) (hx : X.length = 32) : (Instr.buildSlice 50 1 #[(0, .agg (hb32 X))]).run Tryd.prog w = .ok (.slice (some ⟨w.heap.size, 0, none⟩) 1 1) (w.alloc (.cells (hb32 X) 35)) := by
  obtain _ | ⟨x0, X⟩ := X
  · simp at hx
  obtain _ | ⟨x1, X⟩ := X
  · simp at hx
  obtain _ | ⟨x2, X⟩ := X
  · simp at hx
  obtain _ | ⟨x3, X⟩ := X
  · simp at hx
  obtain _ | ⟨x4, X⟩ := X
  · simp at hx
  obtain _ | ⟨x5, X⟩ := X
  · simp at hx
  obtain _ | ⟨x6, X⟩ := X
  · simp at hx
  obtain _ | ⟨x7, X⟩ := X
  · simp at hx
  obtain _ | ⟨x8, X⟩ := X
  · simp at hx
  obtain _ | ⟨x9, X⟩ := X
  · simp at hx
  obtain _ | ⟨x10, X⟩ := X
  · simp at hx
  obtain _ | ⟨x11, X⟩ := X
  · simp at hx
  obtain _ | ⟨x12, X⟩ := X
  · simp at hx
  obtain _ | ⟨x13, X⟩ := X
  · simp at hx
  obtain _ | ⟨x14, X⟩ := X
  · simp at hx
  obtain _ | ⟨x15, X⟩ := X
  · simp at hx
  obtain _ | ⟨x16, X⟩ := X
  · simp at hx
  obtain _ | ⟨x17, X⟩ := X
  · simp at hx
  obtain _ | ⟨x18, X⟩ := X
  · simp at hx
  obtain _ | ⟨x19, X⟩ := X
  · simp at hx
  obtain _ | ⟨x20, X⟩ := X
  · simp at hx
  obtain _ | ⟨x21, X⟩ := X
  · simp at hx
  obtain _ | ⟨x22, X⟩ := X
  · simp at hx
  obtain _ | ⟨x23, X⟩ := X
  · simp at hx
  obtain _ | ⟨x24, X⟩ := X
  · simp at hx
  obtain _ | ⟨x25, X⟩ := X
  · simp at hx
  obtain _ | ⟨x26, X⟩ := X
  · simp at hx
  obtain _ | ⟨x27, X⟩ := X
  · simp at hx
  obtain _ | ⟨x28, X⟩ := X
  · simp at hx
  obtain _ | ⟨x29, X⟩ := X
  · simp at hx
  obtain _ | ⟨x30, X⟩ := X
  · simp at hx
  obtain _ | ⟨x31, X⟩ := X
  · simp at hx
  obtain _ | ⟨x32, X⟩ := X
  · kernel_rfl
  · simp at hx
theorem wp_bslice1 {P : Program} {o : Oper} {a : Act} {w : World} {K : Act → World → Prop} {Q : Exit → Act → World → Prop} (t : TypeId) (x : Operand) (ho : o.op = .buildSlice t 1 #[(0, x)]) (v : Value) (hx : a.eval x = v) {r : Value} {w' : World} (hr : (Instr.buildSlice t 1 #[(0, v)]).run P w = .ok r w') (h : K (a.put o.dst r) w') : Oper.wp P o a w K Q := by
  unfold Oper.wp execOp
  simp only [ho, hx, Sem.run_bind, List.map_toArray, List.map_cons, List.map_nil, hr, Result.andThen_ok, Sem.run_pure]
  exact h
theorem wp_append_runT {P : Program} {o : Oper} {a : Act} {w : World} {K : Act → World → Prop} {Q : Exit → Act → World → Prop} (s x : Operand) {t tx ty : TypeId}
    (ho : o.op = .call { callee := .builtin .append, args := #[s, x], argTypes := #[t, tx] }) (hty : o.type = ty) (v xv : Value) (hs : a.eval s = v) (hx : a.eval x = xv) {v' : Value} {w' : World}
    (hr : (Builtin.append_ #[t, tx] ty #[v, xv]).run P w = .ok v' w') (h : K (a.put o.dst v') w') : Oper.wp P o a w K Q := by
  subst hty
  exact wp_append_run s x ho v xv hs hx hr h
theorem wpList_bslice1 {P : Program} {ops : Array Oper} {rest : List Oper} {op : Oper} {a : Act} {w : World} {Q : Exit → Act → World → Prop} (hgd : op.guard = none) (t : TypeId) (x : Operand) (ho : op.op = .buildSlice t 1 #[(0, x)]) (v : Value) (hx : a.eval x = v) (r : Value) (w' : World) (hr : (Instr.buildSlice t 1 #[(0, v)]).run P w = .ok r w') (h : wpList P ops Q rest (a.put op.dst r) w') : wpList P ops Q (op :: rest) a w :=
  wpList_plain hgd fun K hK => wp_bslice1 t x ho v hx hr (hK _ _ h)
/-- A list of digests in new memory. -/
def Wy (w : World) (A : List (List UInt8)) (e : Ending) (w' : World) : Prop := ∃ v, e = .returned v ∧ OwnN w' 35 32 v A.length (hsF A) ∧ (∀ g, v.ownBlock = some g → w.heap.size ≤ g) ∧ Turn no w w'
theorem way_app {w w1 : World} {v : Value} {A : List (List UInt8)} {X : List UInt8} (hX : X.length = 32) (hb : A.length ≤ 65537) (O : OwnN w1 35 32 v A.length (hsF A)) (f : ∀ g, v.ownBlock = some g → w.heap.size ≤ g) (T : Turn no w w1) :
    ∃ v2 w2, (Builtin.append_ #[50, 50] 50 #[v, .slice (some ⟨w1.heap.size, 0, none⟩) 1 1]).run Tryd.prog (w1.alloc (.cells (hb32 X) 35)) = .ok v2 w2 ∧ Wy w (A ++ [X]) (.returned v2) w2 := by
  have TX : Turn no w1 (w1.alloc (.cells (hb32 X) 35)) := (Turn.refl no w1).alloc _
  obtain ⟨v2, w2, r2, O2, T2, g2, c2, e2, hc2, hg2⟩ := app_second Tryd.underlying50 info25 rfl (by decide) (T.then_no TX) (O.turn_no TX) f (Row.new w1 (hb32 X) 35) (hb32_size hX) hb32_ones (by omega) (by simp only [maxLen]; omega)
  refine ⟨v2, w2, r2, v2, rfl, ?_, ?_, T2⟩
  · have e : hsF (A ++ [X]) = hsF A ++ (hb32 X).toList := by rw [hsF_append]; simp [hsF, hb32]
    rw [e, List.length_append]
    exact O2
  · intro g hg
    rw [e2] at hg
    cases hg
    exact hg2
set_option maxRecDepth 100000 in
set_option maxHeartbeats 8000000 in
theorem way33 (n : Nat) : ∀ (l : Its) (b o ca a' : Nat) (w : World), l.length = n → Pcs w b o l → n ≤ ca → 1 ≤ n → okL l → a' < n → Laid1 w → 2 ≤ w.heap.size →
    (wayH (txs l) a').length = stepsN n a' ∧ Calls Tryd.prog 39 #[.slice (some ⟨b, o, none⟩) n ca, .int .i64 a'] w (Wy w (wayH (txs l) a')) := by
  induction n using Nat.strongRecOn with
  | _ n ih =>
    intro l b o ca a' w hln hP hca h1 hol ha hl h2
    by_cases h : n = 1
    · subst h
      have e : wayH (txs l) a' = [] := wayH_one _ _ (by rw [txs_len]; exact hln)
      rw [e]
      refine ⟨by rw [stepsN_one]; rfl, ?_⟩
      go_enter Tryd.func39, Tryd.ntmps39
      go_wp2_with fail
      go_ret
      exact ⟨_, rfl, OwnN.nil w 35 32, (fun g q => by cases q), Turn.refl _ _⟩
    · have hk1 := splitN_lt n (by omega)
      have hk2 := splitN_pos n
      have h65 : n ≤ 65536 := by rw [← hln]; exact hol.1
      have hsp := fun W => split_any W n (by omega) h65
      have hml : (txs l).length = n := by rw [txs_len]; exact hln
      by_cases hak : a' < splitN n
      · have e := wayH_left (txs l) a' (by omega) (by rw [hml]; exact hak)
        rw [hml, ← txs_take, ← txs_drop] at e
        have WH : ∀ W, Turn no w W → (wayH (txs (l.take (splitN n))) a').length = stepsN (splitN n) a' ∧ Calls Tryd.prog 39 #[.slice (some ⟨b, o, none⟩) (splitN n) ca, .int .i64 ((a' : Nat) : Int)] W (Wy W (wayH (txs (l.take (splitN n))) a')) := fun W T => ih (splitN n) (by omega) (l.take (splitN n)) b (o) ca a' W (by simp; omega) ((hP.turn_no T).take _) (by omega) (by omega) (hol.take _) (by omega) (hl.turn T (fun q => q)) (by have := T.size; omega)
        have hlen := (WH w (Turn.refl no w)).1
        have WC := shut (fun W T => (WH W T).2)
        have TC : Shut (∀ W, Turn no w W → Calls Tryd.prog 51 #[.slice (some ⟨b, o + splitN n, none⟩) (n - splitN n) (ca - splitN n)] W fun e w' => e = .returned (.agg (hb32 (topH (txs (l.drop (splitN n)))))) ∧ Turn no W w') := fun W T => top_any (n - splitN n) (l.drop (splitN n)) b (o + splitN n) (ca - splitN n) W (by simp; omega) ((hP.turn_no T).drop _) (by omega) (by omega) (by omega) (hol.drop _).2 (hl.turn T (fun q => q)) (by have := T.size; omega)
        have lt := topH_len (txs (l.drop (splitN n)))
        have hb7 : (wayH (txs (l.take (splitN n))) a').length ≤ 65537 := by rw [hlen]; have := stepsN_le (splitN n) a'; omega
        refine ⟨by rw [e, List.length_append, hlen, stepsN_left n a' (by omega) hak]; rfl, ?_⟩
        rw [e]
        clear e WH ih hP hol hln hml hlen
        generalize wayH (txs (l.take (splitN n))) a' = A at *
        generalize topH (txs (l.drop (splitN n))) = X at *
        generalize splitN n = k at *
        have hn1 : ((n : Int) == 1) = false := by simp; omega
        have hkc : (k : Int) ≤ (ca : Int) := by omega
        have hkn : (k : Int) ≤ (n : Int) := by omega
        have hkne : ¬ ca = k := by omega
        have hak' : (a' : Int) < (k : Int) := by omega
        go_enter Tryd.func39, Tryd.ntmps39
        go_upto_region 6 with (go_at_call 50; refine (hsp _).mono ?_; clear hsp; rintro e w' ⟨rfl, hw'⟩; subst hw')
        refine wp_region_held_drew (S := fun W => Turn no w' W) (by kernel_rfl) (Turn.refl no w').drew (fun hHeld => ?_)
        refine' wpAnyH_take (i := 0) (v := .slice (some ⟨b, o, none⟩) n ca) rfl (by kernel_rfl) (by kernel_rfl) (by kernel_rfl) (fun _ _ _ h => h) (Or.inl ⟨by kernel_rfl, fun W hW => ?y1⟩) hHeld ?r1
        · go_simp
        refine' wpAnyH_take (i := 1) (v := .int .i64 k) rfl (by kernel_rfl) (by kernel_rfl) (by kernel_rfl) (fun _ _ _ h => h) (Or.inl ⟨by kernel_rfl, fun W hW => ?y2⟩) hHeld ?r2
        · go_simp
        refine' wpAnyH_take (i := 2) (v := .slice (some ⟨b, o, none⟩) k ca) rfl (by kernel_rfl) (by kernel_rfl) (by kernel_rfl) (fun _ _ _ h => h) (Or.inl ⟨by kernel_rfl, fun W hW => ?y3⟩) hHeld ?r3
        · go_simp
        refine' wpAnyH_take (i := 3) (v := .int .i64 a') rfl (by kernel_rfl) (by kernel_rfl) (by kernel_rfl) (fun _ _ _ h => h) (Or.inl ⟨by kernel_rfl, fun W hW => ?y4⟩) hHeld ?r4
        · go_simp
        refine' wpAnyH_take (i := 5) (v := .slice (some ⟨b, o, none⟩) n ca) rfl (by kernel_rfl) (by kernel_rfl) (by kernel_rfl) (fun _ _ _ h => h) (Or.inl ⟨by kernel_rfl, fun W hW => ?y5⟩) hHeld ?r5
        · go_simp
        refine' wpAnyH_take (i := 6) (v := .int .i64 k) rfl (by kernel_rfl) (by kernel_rfl) (by kernel_rfl) (fun _ _ _ h => h) (Or.inl ⟨by kernel_rfl, fun W hW => ?y6⟩) hHeld ?r6
        · go_simp
        refine' wpAnyH_take (i := 7) (v := .slice (some ⟨b, o + k, none⟩) (n - k) (ca - k)) rfl (by kernel_rfl) (by kernel_rfl) (by kernel_rfl) (fun _ _ _ h => h) (Or.inl ⟨by kernel_rfl, fun W hW => ?y7⟩) hHeld ?r7
        · go_simp
        refine wpAnyH_ready (rs := [4]) (by kernel_rfl) (by simp) ?_
        refine AllReadyH.cons rfl (fun K hK => ?_) AllReadyH.nil
        go_simp
        refine (WC.out _ hHeld).mono ?_
        intro e w3 h3
        obtain ⟨v3, rfl, O3, f3, t3⟩ := h3
        have F3 : ∀ g, v3.ownBlock = some g → w'.heap.size ≤ g := fun g hg => by have := f3 g hg; have := hHeld.size; omega
        obtain ⟨va, vc, ev, _⟩ := O3.form
        refine hK.out _ _ (hHeld.then_no t3) (fun hHeld => ?_)
        clear hK f3
        refine wpAnyH_ready (rs := [8]) (by kernel_rfl) (by simp) ?_
        refine AllReadyH.cons rfl (fun K hK => ?_) AllReadyH.nil
        go_simp
        refine (TC.out _ hHeld).mono ?_
        rintro e w4 ⟨rfl, t4⟩
        refine hK.out _ _ (hHeld.then_no t4) (fun hHeld => ?_)
        clear hK
        obtain ⟨v5, w5, r5, W5⟩ := way_app lt hb7 (O3.turn_no t4) F3 hHeld
        refine wpAnyH_ready (rs := [9]) (by kernel_rfl) (by simp) ?_
        refine AllReadyH.cons rfl (fun K hK => ?_) AllReadyH.nil
        rw [if_pos (by kernel_rfl)]
        refine wp_bslice1 50 _ rfl _ rfl (bsl32 _ X lt) ?_
        refine hK.out _ _ (hHeld.alloc _) (fun hHeld => ?_)
        clear hK
        refine wpAnyH_ready (rs := [10]) (by kernel_rfl) (by simp) ?_
        refine AllReadyH.cons rfl (fun K hK => ?_) AllReadyH.nil
        rw [if_pos (by kernel_rfl)]
        refine wp_append_runT _ _ rfl rfl v3 (.slice (some ⟨w4.heap.size, 0, none⟩) 1 1) (by go_simp) (by go_simp) r5 ?_
        obtain ⟨v6, e6, O6, f6, t6⟩ := W5
        refine hK.out _ _ t6 (fun hHeld => ?_)
        clear hK
        refine' wpAnyH_take (i := 11) (v := v5) rfl (by kernel_rfl) (by kernel_rfl) (by kernel_rfl) (fun _ _ _ h => h) (Or.inl ⟨by kernel_rfl, fun W hW => ?y8⟩) hHeld ?r8
        · go_simp
        refine wpAnyH_done (by kernel_rfl) ?_ _
        go_simp
        go_wp2_with fail
        go_ret
        exact ⟨v6, e6, O6, f6, t6⟩
      · have e := wayH_right (txs l) a' (by omega) (by rw [hml]; exact hak)
        rw [hml, ← txs_drop, ← txs_take] at e
        have WH : ∀ W, Turn no w W → (wayH (txs (l.drop (splitN n))) (a' - splitN n)).length = stepsN (n - splitN n) (a' - splitN n) ∧ Calls Tryd.prog 39 #[.slice (some ⟨b, o + splitN n, none⟩) (n - splitN n) (ca - splitN n), .int .i64 (((a' - splitN n) : Nat) : Int)] W (Wy W (wayH (txs (l.drop (splitN n))) (a' - splitN n))) := fun W T => ih (n - splitN n) (by omega) (l.drop (splitN n)) b (o + splitN n) (ca - splitN n) (a' - splitN n) W (by simp; omega) ((hP.turn_no T).drop _) (by omega) (by omega) (hol.drop _) (by omega) (hl.turn T (fun q => q)) (by have := T.size; omega)
        have hlen := (WH w (Turn.refl no w)).1
        have WC := shut (fun W T => (WH W T).2)
        have TC : Shut (∀ W, Turn no w W → Calls Tryd.prog 51 #[.slice (some ⟨b, o, none⟩) (splitN n) ca] W fun e w' => e = .returned (.agg (hb32 (topH (txs (l.take (splitN n)))))) ∧ Turn no W w') := fun W T => top_any (splitN n) (l.take (splitN n)) b (o) ca W (by simp; omega) ((hP.turn_no T).take _) (by omega) (by omega) (by omega) (hol.take _).2 (hl.turn T (fun q => q)) (by have := T.size; omega)
        have lt := topH_len (txs (l.take (splitN n)))
        have hb7 : (wayH (txs (l.drop (splitN n))) (a' - splitN n)).length ≤ 65537 := by rw [hlen]; have := stepsN_le (n - splitN n) (a' - splitN n); omega
        refine ⟨by rw [e, List.length_append, hlen, stepsN_right n a' (by omega) hak]; rfl, ?_⟩
        rw [e]
        clear e WH ih hP hol hln hml hlen
        generalize wayH (txs (l.drop (splitN n))) (a' - splitN n) = A at *
        generalize topH (txs (l.take (splitN n))) = X at *
        generalize splitN n = k at *
        have hn1 : ((n : Int) == 1) = false := by simp; omega
        have hkc : (k : Int) ≤ (ca : Int) := by omega
        have hkn : (k : Int) ≤ (n : Int) := by omega
        have hkne : ¬ ca = k := by omega
        have hak' : ¬ (a' : Int) < (k : Int) := by omega
        obtain ⟨ak, hak2⟩ : ∃ ak, a' - k = ak := ⟨_, rfl⟩
        have w2 : IntKind.i64.wrap ((a' : Int) - (k : Int)) = (ak : Int) := by rw [IntKind.wrap_i64]; omega
        rw [hak2] at WC
        clear hak2
        go_enter Tryd.func39, Tryd.ntmps39
        go_upto_region 7 with (go_at_call 50; refine (hsp _).mono ?_; clear hsp; rintro e w' ⟨rfl, hw'⟩; subst hw')
        refine wp_region_held_drew (S := fun W => Turn no w' W) (by kernel_rfl) (Turn.refl no w').drew (fun hHeld => ?_)
        refine' wpAnyH_take (i := 0) (v := .slice (some ⟨b, o, none⟩) n ca) rfl (by kernel_rfl) (by kernel_rfl) (by kernel_rfl) (fun _ _ _ h => h) (Or.inl ⟨by kernel_rfl, fun W hW => ?y9⟩) hHeld ?r9
        · go_simp
        refine' wpAnyH_take (i := 1) (v := .int .i64 k) rfl (by kernel_rfl) (by kernel_rfl) (by kernel_rfl) (fun _ _ _ h => h) (Or.inl ⟨by kernel_rfl, fun W hW => ?y10⟩) hHeld ?r10
        · go_simp
        refine' wpAnyH_take (i := 2) (v := .slice (some ⟨b, o + k, none⟩) (n - k) (ca - k)) rfl (by kernel_rfl) (by kernel_rfl) (by kernel_rfl) (fun _ _ _ h => h) (Or.inl ⟨by kernel_rfl, fun W hW => ?y11⟩) hHeld ?r11
        · go_simp
        refine' wpAnyH_take (i := 3) (v := .int .i64 a') rfl (by kernel_rfl) (by kernel_rfl) (by kernel_rfl) (fun _ _ _ h => h) (Or.inl ⟨by kernel_rfl, fun W hW => ?y12⟩) hHeld ?r12
        · go_simp
        refine' wpAnyH_take (i := 4) (v := .int .i64 k) rfl (by kernel_rfl) (by kernel_rfl) (by kernel_rfl) (fun _ _ _ h => h) (Or.inl ⟨by kernel_rfl, fun W hW => ?y13⟩) hHeld ?r13
        · go_simp
        refine' wpAnyH_take (i := 5) (v := .int .i64 ak) rfl (by kernel_rfl) (by kernel_rfl) (by kernel_rfl) (fun _ _ _ h => h) (Or.inl ⟨by kernel_rfl, fun W hW => ?y14⟩) hHeld ?r14
        · go_simp
        refine' wpAnyH_take (i := 7) (v := .slice (some ⟨b, o, none⟩) n ca) rfl (by kernel_rfl) (by kernel_rfl) (by kernel_rfl) (fun _ _ _ h => h) (Or.inl ⟨by kernel_rfl, fun W hW => ?y15⟩) hHeld ?r15
        · go_simp
        refine' wpAnyH_take (i := 8) (v := .int .i64 k) rfl (by kernel_rfl) (by kernel_rfl) (by kernel_rfl) (fun _ _ _ h => h) (Or.inl ⟨by kernel_rfl, fun W hW => ?y16⟩) hHeld ?r16
        · go_simp
        refine' wpAnyH_take (i := 9) (v := .slice (some ⟨b, o, none⟩) k ca) rfl (by kernel_rfl) (by kernel_rfl) (by kernel_rfl) (fun _ _ _ h => h) (Or.inl ⟨by kernel_rfl, fun W hW => ?y17⟩) hHeld ?r17
        · go_simp
        refine wpAnyH_ready (rs := [6]) (by kernel_rfl) (by simp) ?_
        refine AllReadyH.cons rfl (fun K hK => ?_) AllReadyH.nil
        go_simp
        refine (WC.out _ hHeld).mono ?_
        intro e w3 h3
        obtain ⟨v3, rfl, O3, f3, t3⟩ := h3
        have F3 : ∀ g, v3.ownBlock = some g → w'.heap.size ≤ g := fun g hg => by have := f3 g hg; have := hHeld.size; omega
        obtain ⟨va, vc, ev, _⟩ := O3.form
        refine hK.out _ _ (hHeld.then_no t3) (fun hHeld => ?_)
        clear hK f3
        refine wpAnyH_ready (rs := [10]) (by kernel_rfl) (by simp) ?_
        refine AllReadyH.cons rfl (fun K hK => ?_) AllReadyH.nil
        go_simp
        refine (TC.out _ hHeld).mono ?_
        rintro e w4 ⟨rfl, t4⟩
        refine hK.out _ _ (hHeld.then_no t4) (fun hHeld => ?_)
        clear hK
        obtain ⟨v5, w5, r5, W5⟩ := way_app lt hb7 (O3.turn_no t4) F3 hHeld
        refine wpAnyH_ready (rs := [11]) (by kernel_rfl) (by simp) ?_
        refine AllReadyH.cons rfl (fun K hK => ?_) AllReadyH.nil
        rw [if_pos (by kernel_rfl)]
        refine wp_bslice1 50 _ rfl _ rfl (bsl32 _ X lt) ?_
        refine hK.out _ _ (hHeld.alloc _) (fun hHeld => ?_)
        clear hK
        refine wpAnyH_ready (rs := [12]) (by kernel_rfl) (by simp) ?_
        refine AllReadyH.cons rfl (fun K hK => ?_) AllReadyH.nil
        rw [if_pos (by kernel_rfl)]
        refine wp_append_runT _ _ rfl rfl v3 (.slice (some ⟨w4.heap.size, 0, none⟩) 1 1) (by go_simp) (by go_simp) r5 ?_
        obtain ⟨v6, e6, O6, f6, t6⟩ := W5
        refine hK.out _ _ t6 (fun hHeld => ?_)
        clear hK
        refine' wpAnyH_take (i := 13) (v := v5) rfl (by kernel_rfl) (by kernel_rfl) (by kernel_rfl) (fun _ _ _ h => h) (Or.inl ⟨by kernel_rfl, fun W hW => ?y18⟩) hHeld ?r18
        · go_simp
        refine wpAnyH_done (by kernel_rfl) ?_ _
        go_simp
        go_wp2_with fail
        go_ret
        exact ⟨v6, e6, O6, f6, t6⟩
end Go.Proofs.YtnibmkenbidnfaaDoor

