/- The document's way; Prove of both. -/
import Derived.Test.YtnibmkenbidnfaaDoorK8
namespace Go.Proofs.YtnibmkenbidnfaaDoor
open Go.RowKit
set_option linter.unusedVariables false

set_option maxRecDepth 100000 in
set_option maxHeartbeats 8000000 in
theorem rway34 (n : Nat) : ∀ (l : Its) (b o ca a' : Nat) (w : World), l.length = n → Pcs w b o l → n ≤ ca → 1 ≤ n → okL l → a' < n → Laid0 w → 2 ≤ w.heap.size →
    (wayH (txs l) a').length = stepsN n a' ∧ Calls Tryd.prog 41 #[.slice (some ⟨b, o, none⟩) n ca, .int .i64 a'] w (Wy w (wayH (txs l) a')) := by
  induction n using Nat.strongRecOn with
  | _ n ih =>
    intro l b o ca a' w hln hP hca h1 hol ha hl h2
    by_cases h : n = 1
    · subst h
      have e : wayH (txs l) a' = [] := wayH_one _ _ (by rw [txs_len]; exact hln)
      rw [e]
      refine ⟨by rw [stepsN_one]; rfl, ?_⟩
      go_enter Tryd.func41, Tryd.ntmps41
      go_wp2_with fail
      go_ret
      exact ⟨_, rfl, OwnN.nil w 35 32, (fun g q => by cases q), Turn.refl _ _⟩
    · have hk1 := splitN_lt n (by omega)
      have hk2 := splitN_pos n
      have h65 : n ≤ 65536 := by rw [← hln]; exact hol.1
      have hsp := fun W => rsplit_any W n (by omega) h65
      have hml : (txs l).length = n := by rw [txs_len]; exact hln
      have hZ := hb32_size z32_len
      have hzv := zero35v
      by_cases hak : a' < splitN n
      · have e := wayH_left (txs l) a' (by omega) (by rw [hml]; exact hak)
        rw [hml, ← txs_take, ← txs_drop] at e
        have WH : ∀ W, Turn no w W → (wayH (txs (l.take (splitN n))) a').length = stepsN (splitN n) a' ∧ Calls Tryd.prog 41 #[.slice (some ⟨b, o, none⟩) (splitN n) ca, .int .i64 ((a' : Nat) : Int)] W (Wy W (wayH (txs (l.take (splitN n))) a')) := fun W T => ih (splitN n) (by omega) (l.take (splitN n)) b (o) ca a' W (by simp; omega) ((hP.turn_no T).take _) (by omega) (by omega) (hol.take _) (by omega) (hl.turn T (fun q => q)) (by have := T.size; omega)
        have hlen := (WH w (Turn.refl no w)).1
        have WC := shut (fun W T => (WH W T).2)
        have tc := rtop_any (n - splitN n) (l.drop (splitN n)) b (o + splitN n) (ca - splitN n) w (by simp; omega) ((hP).drop _) (by omega) (by omega) (by omega) (hol.drop _).2 hl h2
        have lt := topH_len (txs (l.drop (splitN n)))
        have hb7 : (wayH (txs (l.take (splitN n))) a').length ≤ 65537 := by rw [hlen]; have := stepsN_le (splitN n) a'; omega
        refine ⟨by rw [e, List.length_append, hlen, stepsN_left n a' (by omega) hak]; rfl, ?_⟩
        rw [e]
        have tc' : Calls Tryd.prog 53 #[.slice (some ⟨b, o + splitN n, none⟩) (n - splitN n) (ca - splitN n)] w fun e w' => e = .returned (.agg (hb32 (topH (txs (l.drop (splitN n)))))) ∧ Turn no w w' := tc
        clear tc e WH ih hP hol hln hml hlen
        generalize wayH (txs (l.take (splitN n))) a' = A at *
        generalize topH (txs (l.drop (splitN n))) = X at *
        have sX := hb32_size lt
        have oX := hb32_one X
        have iX := hb32_info lt
        have HB := shut (fun W => bsl32 W X lt)
        have HAP : Shut (∀ w1 v, OwnN w1 35 32 v A.length (hsF A) → (∀ g, v.ownBlock = some g → w.heap.size ≤ g) → Turn no w w1 → ∃ v2 w2, (Builtin.append_ #[50, 50] 50 #[v, .slice (some ⟨w1.heap.size, 0, none⟩) 1 1]).run Tryd.prog (w1.alloc (.cells (hb32 X) 35)) = .ok v2 w2 ∧ Wy w (A ++ [X]) (.returned v2) w2) := fun w1 v O f T => way_app lt hb7 O f T
        generalize A ++ [X] = AX at *
        generalize hb32 X = XA at *
        generalize hb32 z32 = Z at *
        generalize splitN n = k at *
        have hn1 : ((n : Int) == 1) = false := by simp; omega
        have hkc : (k : Int) ≤ (ca : Int) := by omega
        have hkn : (k : Int) ≤ (n : Int) := by omega
        have hkne : ¬ ca = k := by omega
        have hak' : (a' : Int) < (k : Int) := by omega
        go_enter Tryd.func41, Tryd.ntmps41
        go_upto_region 6 with (first | (go_at_call 52; refine (hsp _).mono ?_; clear hsp; rintro e w' ⟨rfl, hw'⟩; subst hw') | (go_at_call 53; refine tc'.mono ?_; clear tc'; rintro e wa ⟨rfl, ta⟩) | (guard_target =~ wpList _ _ _ ({ dst := _, op := Op.store 35 _ _, .. } :: _) _ _; refine wpList_store_anyN rfl rfl 35 (.tmp 6) (.tmp 22) rfl _ XA rfl rfl 35 Z (Row.new _ Z 35) iX (by rw [hZ, sX]) oX ?_; intro wb RL tb))
        have TAB : Turn (fun q => q = wa.heap.size) wa wb := ((Turn.refl no wa).alloc _).of_no.trans tb (fun _ _ e => e)
        have TB := ta.trans TAB (fun i hi e => by have := ta.size; omega)
        have wc := WC.out wb TB
        clear TAB ta tb hzv
        generalize wa.heap.size = g6 at *
        go_upto_region 7 with (go_at_call 41; refine wc.mono ?_; clear wc; intro e wd h3; obtain ⟨v3, rfl, O3, f3, t3⟩ := h3)
        have TD := TB.then_no t3
        have RD := Row.turn RL t3 (fun q => q)
        obtain ⟨v5, w5, r5, W5⟩ := HAP.out wd v3 O3 (fun g hg => by have := f3 g hg; have := TB.size; omega) TD
        have bs := HB.out wd
        clear RL t3 O3 f3 HAP HB
        go_wp2_with (first | (guard_target =~ wpList _ _ _ ({ dst := some 29, op := Op.load 35 _, .. } :: _) _ _; refine wpList_load_row rfl 35 (.tmp 6) rfl g6 rfl 35 XA _ _ RD Tryd.underlying35 rfl iX ?_) | (guard_target =~ wpList _ _ _ ({ dst := some 30, op := Op.buildSlice _ _ _, .. } :: _) _ _; refine wpList_bslice1 rfl 50 (.tmp 29) rfl _ rfl _ _ bs ?_) | (guard_target =~ wpList _ _ _ ({ dst := some 31, op := Op.call _, .. } :: _) _ _; at_builtin; refine wpList_append_run rfl (.tmp 28) (.tmp 30) rfl _ _ rfl rfl r5 ?_))
        go_ret
        exact W5
      · have e := wayH_right (txs l) a' (by omega) (by rw [hml]; exact hak)
        rw [hml, ← txs_drop, ← txs_take] at e
        have WH : ∀ W, Turn no w W → (wayH (txs (l.drop (splitN n))) (a' - splitN n)).length = stepsN (n - splitN n) (a' - splitN n) ∧ Calls Tryd.prog 41 #[.slice (some ⟨b, o + splitN n, none⟩) (n - splitN n) (ca - splitN n), .int .i64 (((a' - splitN n) : Nat) : Int)] W (Wy W (wayH (txs (l.drop (splitN n))) (a' - splitN n))) := fun W T => ih (n - splitN n) (by omega) (l.drop (splitN n)) b (o + splitN n) (ca - splitN n) (a' - splitN n) W (by simp; omega) ((hP.turn_no T).drop _) (by omega) (by omega) (hol.drop _) (by omega) (hl.turn T (fun q => q)) (by have := T.size; omega)
        have hlen := (WH w (Turn.refl no w)).1
        have WC := shut (fun W T => (WH W T).2)
        have tc := rtop_any (splitN n) (l.take (splitN n)) b (o) ca w (by simp; omega) ((hP).take _) (by omega) (by omega) (by omega) (hol.take _).2 hl h2
        have lt := topH_len (txs (l.take (splitN n)))
        have hb7 : (wayH (txs (l.drop (splitN n))) (a' - splitN n)).length ≤ 65537 := by rw [hlen]; have := stepsN_le (n - splitN n) (a' - splitN n); omega
        refine ⟨by rw [e, List.length_append, hlen, stepsN_right n a' (by omega) hak]; rfl, ?_⟩
        rw [e]
        have tc' : Calls Tryd.prog 53 #[.slice (some ⟨b, o, none⟩) (splitN n) ca] w fun e w' => e = .returned (.agg (hb32 (topH (txs (l.take (splitN n)))))) ∧ Turn no w w' := tc
        clear tc e WH ih hP hol hln hml hlen
        generalize wayH (txs (l.drop (splitN n))) (a' - splitN n) = A at *
        generalize topH (txs (l.take (splitN n))) = X at *
        have sX := hb32_size lt
        have oX := hb32_one X
        have iX := hb32_info lt
        have HB := shut (fun W => bsl32 W X lt)
        have HAP : Shut (∀ w1 v, OwnN w1 35 32 v A.length (hsF A) → (∀ g, v.ownBlock = some g → w.heap.size ≤ g) → Turn no w w1 → ∃ v2 w2, (Builtin.append_ #[50, 50] 50 #[v, .slice (some ⟨w1.heap.size, 0, none⟩) 1 1]).run Tryd.prog (w1.alloc (.cells (hb32 X) 35)) = .ok v2 w2 ∧ Wy w (A ++ [X]) (.returned v2) w2) := fun w1 v O f T => way_app lt hb7 O f T
        generalize A ++ [X] = AX at *
        generalize hb32 X = XA at *
        generalize hb32 z32 = Z at *
        generalize splitN n = k at *
        have hn1 : ((n : Int) == 1) = false := by simp; omega
        have hkc : (k : Int) ≤ (ca : Int) := by omega
        have hkn : (k : Int) ≤ (n : Int) := by omega
        have hkne : ¬ ca = k := by omega
        have hak' : ¬ (a' : Int) < (k : Int) := by omega
        obtain ⟨ak, hak2⟩ : ∃ ak, a' - k = ak := ⟨_, rfl⟩
        have w2 : IntKind.i64.wrap ((a' : Int) - (k : Int)) = (ak : Int) := by rw [IntKind.wrap_i64]; omega
        rw [hak2] at WC
        clear hak2
        go_enter Tryd.func41, Tryd.ntmps41
        go_upto_region 9 with (first | (go_at_call 52; refine (hsp _).mono ?_; clear hsp; rintro e w' ⟨rfl, hw'⟩; subst hw') | (go_at_call 53; refine tc'.mono ?_; clear tc'; rintro e wa ⟨rfl, ta⟩) | (guard_target =~ wpList _ _ _ ({ dst := _, op := Op.store 35 _ _, .. } :: _) _ _; refine wpList_store_anyN rfl rfl 35 (.tmp 8) (.tmp 35) rfl _ XA rfl rfl 35 Z (Row.new _ Z 35) iX (by rw [hZ, sX]) oX ?_; intro wb RL tb))
        have TAB : Turn (fun q => q = wa.heap.size) wa wb := ((Turn.refl no wa).alloc _).of_no.trans tb (fun _ _ e => e)
        have TB := ta.trans TAB (fun i hi e => by have := ta.size; omega)
        have wc := WC.out wb TB
        clear TAB ta tb hzv
        generalize wa.heap.size = g6 at *
        go_upto_region 10 with (go_at_call 41; refine wc.mono ?_; clear wc; intro e wd h3; obtain ⟨v3, rfl, O3, f3, t3⟩ := h3)
        have TD := TB.then_no t3
        have RD := Row.turn RL t3 (fun q => q)
        obtain ⟨v5, w5, r5, W5⟩ := HAP.out wd v3 O3 (fun g hg => by have := f3 g hg; have := TB.size; omega) TD
        have bs := HB.out wd
        clear RL t3 O3 f3 HAP HB
        go_wp2_with (first | (guard_target =~ wpList _ _ _ ({ dst := some 44, op := Op.load 35 _, .. } :: _) _ _; refine wpList_load_row rfl 35 (.tmp 8) rfl g6 rfl 35 XA _ _ RD Tryd.underlying35 rfl iX ?_) | (guard_target =~ wpList _ _ _ ({ dst := some 45, op := Op.buildSlice _ _ _, .. } :: _) _ _; refine wpList_bslice1 rfl 50 (.tmp 44) rfl _ rfl _ _ bs ?_) | (guard_target =~ wpList _ _ _ ({ dst := some 46, op := Op.call _, .. } :: _) _ _; at_builtin; refine wpList_append_run rfl (.tmp 43) (.tmp 45) rfl _ _ rfl rfl r5 ?_))
        go_ret
        exact W5
end Go.Proofs.YtnibmkenbidnfaaDoor

