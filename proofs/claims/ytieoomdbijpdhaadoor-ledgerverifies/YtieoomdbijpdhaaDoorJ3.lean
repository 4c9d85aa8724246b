/- up. -/
import Derived.Test.YtieoomdbijpdhaaDoorJ2
namespace Go.Proofs.YtieoomdbijpdhaaDoor
open Go.RowKit
set_option linter.unusedVariables false

section
variable {P : Program} {ops : Array Oper} {rest : List Oper} {o : Oper} {a : Act} {w : World} {Q : Exit → Act → World → Prop}
/-- A store over a whole block; of the world behind it only that. -/
theorem wpList_store_anyN (hgd : o.guard = none) (hd : o.dst = none) (ty : TypeId) (x y : Operand) (ho : o.op = .store ty x y)
    (g : Nat) (cells : Array Value) (hx : a.eval x = .pointer (some ⟨g, 0, none⟩)) (hy : a.eval y = .agg cells)
    (t : TypeId) (old : Array Value) (hg : Row w g old t) (hi : (P.info? ty).map (·.size) = some cells.size)
    (hold : old.size = cells.size) (h1 : cells.all (·.oneCell') = true)
    (h : ∀ w', Row w' g cells t → Turn (fun k => k = g) w w' → wpList P ops Q rest a w') : wpList P ops Q (o :: rest) a w :=
  wpList_store_row hgd ty x y ho g cells hx hy t old hg hi hold h1 (by rw [hd]; exact h _ (setRow_heap w g old cells t _ hg) ((Turn.refl _ w).setRow g cells (fun _ => rfl)))
end
set_option maxRecDepth 100000 in
set_option maxHeartbeats 8000000 in
theorem up_any (n : Nat) : ∀ (at' : Nat) (A : List (List UInt8)) (a : Option Addr) (cap : Nat) (x : List UInt8) (w : World), 1 ≤ n → n ≤ 65536 → at' < n → A.length = stepsN n at' → HsAt w a cap A → x.length = 32 → Laid0 w → 2 ≤ w.heap.size →
    Calls Tryd.prog 39 #[.int .i64 n, .int .i64 at', .slice a A.length cap, .agg (hb32 x)] w fun e w' => e = .returned (.agg (hb32 (upH n at' A x))) ∧ Turn no w w' := by
  induction n using Nat.strongRecOn with
  | _ n ih =>
    intro at' A a cap x w h1 h2 h3 hA hH hx hl hsz
    obtain ⟨z, hz, hzs⟩ : ∃ z : Array Value, z = #[.int .u8 0, .int .u8 0, .int .u8 0, .int .u8 0, .int .u8 0, .int .u8 0, .int .u8 0, .int .u8 0, .int .u8 0, .int .u8 0, .int .u8 0, .int .u8 0, .int .u8 0, .int .u8 0, .int .u8 0, .int .u8 0, .int .u8 0, .int .u8 0, .int .u8 0, .int .u8 0, .int .u8 0, .int .u8 0, .int .u8 0, .int .u8 0, .int .u8 0, .int .u8 0, .int .u8 0, .int .u8 0, .int .u8 0, .int .u8 0, .int .u8 0, .int .u8 0] ∧ z.size = 32 := ⟨_, rfl, rfl⟩
    have hzv : ∀ W, (zeroValue 23).run Tryd.prog W = .ok (.agg z) W := fun W => by rw [hz]; kernel_rfl
    have sX := hb32_size hx
    have oX := hb32_one x
    have iX := hb32_info hx
    have T0 : Turn no w ((w.alloc (.cells (hb32 x) 23)).alloc (.cells z 23)) := ((Turn.refl no w).alloc _).alloc _
    have RX : Row ((w.alloc (.cells (hb32 x) 23)).alloc (.cells z 23)) w.heap.size (hb32 x) 23 := (Row.new w _ 23).alloc _
    have RZ : Row ((w.alloc (.cells (hb32 x) 23)).alloc (.cells z 23)) (w.heap.size + 1) z 23 := Row.newAt _ _ _ _ (by simp)
    clear hz
    by_cases h : n = 1
    · subst h
      rw [upH_one]
      generalize hb32 x = X at *
      obtain ⟨w0, hw0⟩ : ∃ w0, (w.alloc (.cells X 23)).alloc (.cells z 23) = w0 := ⟨_, rfl⟩
      rw [hw0] at T0 RX RZ
      clear ih hH hA
      go_enter Tryd.func39, Tryd.ntmps39
      go_upto_region 1 with fail
      try rw [hw0]
      clear hw0
      go_wp2_with (first | (refine wpList_load_row rfl 23 (.tmp 7) rfl w.heap.size rfl 23 X _ _ RX Tryd.underlying23 rfl iX ?_) | (refine wpList_store_row rfl 23 (.tmp 8) (.tmp 16) rfl (w.heap.size + 1) X rfl rfl 23 z RZ iX (by omega) oX ?_))
      refine bodyPost_ret (v := .agg X) ?_ rfl ⟨rfl, T0.setRow _ _ (fun q => by omega)⟩
      exact results_cell_row (P := Tryd.prog) Tryd.results39 _ _ (w.heap.size + 1) 23 X (0, 0) _ rfl (setRow_heap _ _ _ _ _ _ RZ) Tryd.underlying23 rfl iX
    · have hk1 := splitN_lt n (by omega)
      have hk2 := splitN_pos n
      have hsp := fun W => rsplit_any W n (by omega) h2
      have hn1 : ((n : Int) == 1) = false := by simp; omega
      have hle : A.length ≤ 65537 := by rw [hA]; have := stepsN_le n at'; omega
      by_cases ha : at' < splitN n
      · have hst := stepsN_left n at' (by omega) ha
        have hA0 : 0 < A.length := by omega
        obtain ⟨b, off, rfl, cl, ll⟩ := hH.last hA0
        have hll : A.length ≤ cap := hH.le
        have hcm := hH.cap
        have hdl : A.dropLast.length = A.length - 1 := List.length_dropLast
        have r1 := fun W (T : Turn no w W) => ih (splitN n) hk1 at' A.dropLast (some ⟨b, off, none⟩) cap x W hk2 (by omega) ha (by rw [hdl]; omega) (hH.turn_no T).init hx (hl.turn T (fun q => q)) (by have := T.size; omega)
        rw [upH_left n at' A x (by omega) ha]
        have lU := upH_len (splitN n) at' A.dropLast x hx
        rw [hdl] at r1
        generalize upH (splitN n) at' A.dropLast x = U at *
        generalize A.getLastD [] = la at *
        have hin := fun W (T : Turn no w W) => inner14 W U la lU ll (hl.turn T (fun q => q)) (by have := T.size; omega)
        have hs := hv_size (1 :: (U ++ la))
        have o1 := hv_one (1 :: (U ++ la))
        have hi := hv_info (1 :: (U ++ la))
        have hh : hb32 (hashOf (1 :: (U ++ la))) = hv (1 :: (U ++ la)) := rfl
        rw [hh]
        have hin' : ∀ W, Turn no w W → Calls Tryd.prog 14 #[.agg (hb32 U), .agg (hb32 la)] W fun e w' => e = .returned (.agg (hv (1 :: (U ++ la)))) ∧ Turn no W w' := hin
        have sU := hb32_size lU
        have oU := hb32_one U
        have iU := hb32_info lU
        have sL := hb32_size ll
        have oL := hb32_one la
        have iL' := hb32_info ll
        have HL : Shut (∀ W, Turn no w W → W.rangeAt b (off + (A.length - 1) * 32) (hb32 la).toList) := fun W T => by
          have e : (hb32 la).toList = la.map bv := by simp [hb32]
          rw [e]
          exact fun i v hi => T.keep (cl i v hi) (fun q => q)
        have iL : (Tryd.prog.info? 23).map (·.size) = some (hb32 la).toList.length := by rw [Array.length_toList]; exact hb32_info ll
        have HR1 := shut r1
        have HIN := shut hin'
        clear hin hin' r1 hh ih cl hH hdl hst hA lU ll
        generalize hv (1 :: (U ++ la)) = H at *
        generalize hb32 U = UA at *
        generalize hb32 la = LA at *
        generalize hb32 x = X at *
        generalize splitN n = k at *
        obtain ⟨L, hL⟩ : ∃ L, A.length = L + 1 := ⟨A.length - 1, by omega⟩
        rw [hL] at HR1 HL hle hll ⊢
        rw [Nat.add_sub_cancel] at HR1 HL
        clear hL hA0
        obtain ⟨w0, hw0⟩ : ∃ w0, (w.alloc (.cells X 23)).alloc (.cells z 23) = w0 := ⟨_, rfl⟩
        rw [hw0] at T0 RX RZ
        have hwr : IntKind.i64.wrap (((L + 1 : Nat) : Int) - 1) = (L : Int) := by rw [IntKind.wrap_i64]; omega
        have ha' : (at' : Int) < (k : Int) := by omega
        have hcap : ¬ cap < L := by omega
        have hlt : (L : Int) < ((L + 1 : Nat) : Int) := by omega
        have hcm' : cap ≤ 9223372036854775807 := by simp only [maxLen] at hcm; omega
        have rL := HL.out w0 T0
        clear hcm
        go_enter Tryd.func39, Tryd.ntmps39
        go_upto_region 1 with fail
        try rw [hw0]
        clear hw0
        go_upto_region 5 with (first | (go_at_call 58; refine (hsp _).mono ?_; clear hsp; rintro e w' ⟨rfl, hw'⟩; subst hw') | (guard_target =~ wpList _ _ _ ({ dst := _, op := Op.load 23 _, .. } :: _) _ _; refine wpList_load_mid rfl 23 (.tmp 23) rfl b (off + L * 32) rfl LA.toList _ rL Tryd.underlying23 rfl iL ?_) | (guard_target =~ wpList _ _ _ ({ dst := _, op := Op.store 23 _ _, .. } :: _) _ _; refine wpList_store_anyN rfl rfl 23 (.tmp 10) (.tmp 24) rfl _ LA rfl rfl 23 z (Row.new _ z 23) iL' (by omega) oL ?_; intro w1 R1 t1))
        have gX := RX.lt
        have gZ := RZ.lt
        have T1 : Turn (fun q => q = w'.heap.size) w' w1 := ((Turn.refl no w').alloc _).of_no.trans t1 (fun _ _ e => e)
        have RX1 := RX.turn T1 (fun e => by omega)
        have RZ1 := RZ.turn T1 (fun e => by omega)
        have TW1 : Turn no w w1 := T0.trans T1 (fun i hi e => by have := T0.size; omega)
        have hr := HR1.out w1 TW1
        have HTW1 := shut TW1
        have gL : w'.heap.size < w1.heap.size := R1.lt
        clear T1 t1 RX RZ T0 HR1 HL rL
        generalize w'.heap.size = g2 at *
        go_upto_region 8 with (first | (guard_target =~ wpList _ _ _ ({ dst := _, op := Op.load 23 _, .. } :: _) _ _; refine wpList_load_row rfl 23 (.tmp 7) rfl w.heap.size rfl 23 X _ _ RX1 Tryd.underlying23 rfl iX ?_) | (go_at_call 39; refine hr.mono ?_; clear hr; rintro e w2 ⟨rfl, t2⟩) | (guard_target =~ wpList _ _ _ ({ dst := _, op := Op.store 23 _ _, .. } :: _) _ _; refine wpList_store_anyN rfl rfl 23 (.tmp 12) (.tmp 37) rfl _ UA rfl rfl 23 z (Row.new _ z 23) iU (by omega) oU ?_; intro w3 R3 t3))
        have T23 : Turn (fun q => q = w2.heap.size) w2 w3 := ((Turn.refl no w2).alloc _).of_no.trans t3 (fun _ _ e => e)
        have T13 : Turn no w1 w3 := t2.trans T23 (fun i hi e => by have := t2.size; omega)
        have RZ3 := RZ1.turn T13 (fun q => q)
        have RL3 : Row w3 g2 LA 23 := Row.turn R1 T13 (fun q => q)
        have TW3 := HTW1.out.then_no T13
        have hr := HIN.out w3 TW3
        have HTW3 := shut TW3
        clear T23 T13 t2 t3 RX1 RZ1 TW3 HTW1 HIN R1
        generalize w2.heap.size = g3 at *
        go_wp2_with (first | (guard_target =~ wpList _ _ _ ({ dst := some 38, op := Op.load 23 _, .. } :: _) _ _; refine wpList_load_row rfl 23 (.tmp 12) rfl g3 rfl 23 UA _ _ R3 Tryd.underlying23 rfl iU ?_) | (guard_target =~ wpList _ _ _ ({ dst := some 39, op := Op.load 23 _, .. } :: _) _ _; refine wpList_load_row rfl 23 (.tmp 10) rfl g2 rfl 23 LA _ _ RL3 Tryd.underlying23 rfl iL' ?_) | (go_at_call 14; refine hr.mono ?_; clear hr; rintro e w4 ⟨rfl, t4⟩; have RZ4 := Row.turn RZ3 t4 (fun q => q); have TW4 := HTW3.out.then_no t4) | (guard_target =~ wpList _ _ _ ({ dst := _, op := Op.store 23 _ _, .. } :: _) _ _; refine wpList_store_row rfl 23 (.tmp 8) (.tmp 40) rfl (w.heap.size + 1) H rfl rfl 23 z RZ4 hi (by omega) o1 ?_))
        refine bodyPost_ret (v := .agg H) ?_ rfl ⟨rfl, TW4.setRow _ _ (fun q => by omega)⟩
        exact results_cell_row (P := Tryd.prog) Tryd.results39 _ _ (w.heap.size + 1) 23 H (0, 0) _ rfl (setRow_heap _ _ _ _ _ _ RZ4) Tryd.underlying23 rfl hi
      · have hst := stepsN_right n at' (by omega) ha
        have hA0 : 0 < A.length := by omega
        obtain ⟨b, off, rfl, cl, ll⟩ := hH.last hA0
        have hll : A.length ≤ cap := hH.le
        have hcm := hH.cap
        have hdl : A.dropLast.length = A.length - 1 := List.length_dropLast
        have r1 := fun W (T : Turn no w W) => ih (n - splitN n) (by omega) (at' - splitN n) A.dropLast (some ⟨b, off, none⟩) cap x W (by omega) (by omega) (by omega) (by rw [hdl]; omega) (hH.turn_no T).init hx (hl.turn T (fun q => q)) (by have := T.size; omega)
        rw [upH_right n at' A x (by omega) ha]
        have lU := upH_len (n - splitN n) (at' - splitN n) A.dropLast x hx
        rw [hdl] at r1
        generalize upH (n - splitN n) (at' - splitN n) A.dropLast x = U at *
        generalize A.getLastD [] = la at *
        have hin := fun W (T : Turn no w W) => inner14 W la U ll lU (hl.turn T (fun q => q)) (by have := T.size; omega)
        have hs := hv_size (1 :: (la ++ U))
        have o1 := hv_one (1 :: (la ++ U))
        have hi := hv_info (1 :: (la ++ U))
        have hh : hb32 (hashOf (1 :: (la ++ U))) = hv (1 :: (la ++ U)) := rfl
        rw [hh]
        have hin' : ∀ W, Turn no w W → Calls Tryd.prog 14 #[.agg (hb32 la), .agg (hb32 U)] W fun e w' => e = .returned (.agg (hv (1 :: (la ++ U)))) ∧ Turn no W w' := hin
        have sU := hb32_size lU
        have oU := hb32_one U
        have iU := hb32_info lU
        have sL := hb32_size ll
        have oL := hb32_one la
        have iL' := hb32_info ll
        have HL : Shut (∀ W, Turn no w W → W.rangeAt b (off + (A.length - 1) * 32) (hb32 la).toList) := fun W T => by
          have e : (hb32 la).toList = la.map bv := by simp [hb32]
          rw [e]
          exact fun i v hi => T.keep (cl i v hi) (fun q => q)
        have iL : (Tryd.prog.info? 23).map (·.size) = some (hb32 la).toList.length := by rw [Array.length_toList]; exact hb32_info ll
        have HR1 := shut r1
        have HIN := shut hin'
        clear hin hin' r1 hh ih cl hH hdl hst hA lU ll
        generalize hv (1 :: (la ++ U)) = H at *
        generalize hb32 U = UA at *
        generalize hb32 la = LA at *
        generalize hb32 x = X at *
        generalize splitN n = k at *
        obtain ⟨L, hL⟩ : ∃ L, A.length = L + 1 := ⟨A.length - 1, by omega⟩
        rw [hL] at HR1 HL hle hll ⊢
        rw [Nat.add_sub_cancel] at HR1 HL
        clear hL hA0
        obtain ⟨nk, hnk⟩ : ∃ nk, n - k = nk := ⟨_, rfl⟩
        obtain ⟨ak, hak⟩ : ∃ ak, at' - k = ak := ⟨_, rfl⟩
        rw [hnk, hak] at HR1
        have e1 : IntKind.i64.wrap ((n : Int) - (k : Int)) = (nk : Int) := by rw [IntKind.wrap_i64]; omega
        have e2 : IntKind.i64.wrap ((at' : Int) - (k : Int)) = (ak : Int) := by rw [IntKind.wrap_i64]; omega
        clear hnk hak
        obtain ⟨w0, hw0⟩ : ∃ w0, (w.alloc (.cells X 23)).alloc (.cells z 23) = w0 := ⟨_, rfl⟩
        rw [hw0] at T0 RX RZ
        have hwr : IntKind.i64.wrap (((L + 1 : Nat) : Int) - 1) = (L : Int) := by rw [IntKind.wrap_i64]; omega
        have ha' : ¬ (at' : Int) < (k : Int) := by omega
        have hcap : ¬ cap < L := by omega
        have hlt : (L : Int) < ((L + 1 : Nat) : Int) := by omega
        have hcm' : cap ≤ 9223372036854775807 := by simp only [maxLen] at hcm; omega
        have rL := HL.out w0 T0
        clear hcm
        go_enter Tryd.func39, Tryd.ntmps39
        go_upto_region 1 with fail
        try rw [hw0]
        clear hw0
        go_upto_region 5 with (first | (go_at_call 58; refine (hsp _).mono ?_; clear hsp; rintro e w' ⟨rfl, hw'⟩; subst hw') | (guard_target =~ wpList _ _ _ ({ dst := _, op := Op.load 23 _, .. } :: _) _ _; refine wpList_load_mid rfl 23 (.tmp 23) rfl b (off + L * 32) rfl LA.toList _ rL Tryd.underlying23 rfl iL ?_) | (guard_target =~ wpList _ _ _ ({ dst := _, op := Op.store 23 _ _, .. } :: _) _ _; refine wpList_store_anyN rfl rfl 23 (.tmp 10) (.tmp 24) rfl _ LA rfl rfl 23 z (Row.new _ z 23) iL' (by omega) oL ?_; intro w1 R1 t1))
        have gX := RX.lt
        have gZ := RZ.lt
        have T1 : Turn (fun q => q = w'.heap.size) w' w1 := ((Turn.refl no w').alloc _).of_no.trans t1 (fun _ _ e => e)
        have RX1 := RX.turn T1 (fun e => by omega)
        have RZ1 := RZ.turn T1 (fun e => by omega)
        have TW1 : Turn no w w1 := T0.trans T1 (fun i hi e => by have := T0.size; omega)
        have hr := HR1.out w1 TW1
        have HTW1 := shut TW1
        have gL : w'.heap.size < w1.heap.size := R1.lt
        clear T1 t1 RX RZ T0 HR1 HL rL
        generalize w'.heap.size = g2 at *
        go_upto_region 10 with (first | (guard_target =~ wpList _ _ _ ({ dst := _, op := Op.load 23 _, .. } :: _) _ _; refine wpList_load_row rfl 23 (.tmp 7) rfl w.heap.size rfl 23 X _ _ RX1 Tryd.underlying23 rfl iX ?_) | (go_at_call 39; refine hr.mono ?_; clear hr; rintro e w2 ⟨rfl, t2⟩) | (guard_target =~ wpList _ _ _ ({ dst := _, op := Op.store 23 _ _, .. } :: _) _ _; refine wpList_store_anyN rfl rfl 23 (.tmp 13) (.tmp 49) rfl _ UA rfl rfl 23 z (Row.new _ z 23) iU (by omega) oU ?_; intro w3 R3 t3))
        have T23 : Turn (fun q => q = w2.heap.size) w2 w3 := ((Turn.refl no w2).alloc _).of_no.trans t3 (fun _ _ e => e)
        have T13 : Turn no w1 w3 := t2.trans T23 (fun i hi e => by have := t2.size; omega)
        have RZ3 := RZ1.turn T13 (fun q => q)
        have RL3 : Row w3 g2 LA 23 := Row.turn R1 T13 (fun q => q)
        have TW3 := HTW1.out.then_no T13
        have hr := HIN.out w3 TW3
        have HTW3 := shut TW3
        clear T23 T13 t2 t3 RX1 RZ1 TW3 HTW1 HIN R1
        generalize w2.heap.size = g3 at *
        go_wp2_with (first | (guard_target =~ wpList _ _ _ ({ dst := some 50, op := Op.load 23 _, .. } :: _) _ _; refine wpList_load_row rfl 23 (.tmp 10) rfl g2 rfl 23 LA _ _ RL3 Tryd.underlying23 rfl iL' ?_) | (guard_target =~ wpList _ _ _ ({ dst := some 51, op := Op.load 23 _, .. } :: _) _ _; refine wpList_load_row rfl 23 (.tmp 13) rfl g3 rfl 23 UA _ _ R3 Tryd.underlying23 rfl iU ?_) | (go_at_call 14; refine hr.mono ?_; clear hr; rintro e w4 ⟨rfl, t4⟩; have RZ4 := Row.turn RZ3 t4 (fun q => q); have TW4 := HTW3.out.then_no t4) | (guard_target =~ wpList _ _ _ ({ dst := _, op := Op.store 23 _ _, .. } :: _) _ _; refine wpList_store_row rfl 23 (.tmp 8) (.tmp 52) rfl (w.heap.size + 1) H rfl rfl 23 z RZ4 hi (by omega) o1 ?_))
        refine bodyPost_ret (v := .agg H) ?_ rfl ⟨rfl, TW4.setRow _ _ (fun q => by omega)⟩
        exact results_cell_row (P := Tryd.prog) Tryd.results39 _ _ (w.heap.size + 1) 23 H (0, 0) _ rfl (setRow_heap _ _ _ _ _ _ RZ4) Tryd.underlying23 rfl hi
end Go.Proofs.YtieoomdbijpdhaaDoor

