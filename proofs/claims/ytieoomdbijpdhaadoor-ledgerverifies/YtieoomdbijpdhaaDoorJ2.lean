/- climb. -/
import Derived.Test.YtieoomdbijpdhaaDoorCm
import Derived.Test.YtieoomdbijpdhaaDoorJ1
import Derived.Deep.CutRange
import Derived.Deep.MidRow
namespace Go.Proofs.YtieoomdbijpdhaaDoor
open Go.RowKit
set_option linter.unusedVariables false

theorem hb32_size {X : List UInt8} (h : X.length = 32) : (hb32 X).size = 32 := by simpa [hb32] using h
theorem hb32_one (X : List UInt8) : (hb32 X).all (·.oneCell') = true := by simp [hb32, bv, Value.oneCell']
theorem hb32_info {X : List UInt8} (h : X.length = 32) : (Tryd.prog.info? 23).map (·.size) = some (hb32 X).size := by rw [hb32_size h]; exact size35
theorem Row.setOther {w : World} {g : Nat} {cs : Array Value} {e : TypeId} (h : Row w g cs e) {k : Nat} (hk : k ≠ g) (ds : Array Value) : Row (w.setRow k ds) g cs e := by
  unfold Row at *
  rw [setRow_other w k g ds (fun q => hk q.symm)]
  exact h
theorem Row.rng {w : World} {g : Nat} {X : Array Value} {e : TypeId} (h : Row w g X e) : w.rangeAt g 0 X.toList := fun j v hv => by
  rw [Nat.zero_add]
  exact h.cell j v (by simpa using hv)
set_option maxRecDepth 100000 in
set_option maxHeartbeats 4000000 in
theorem climb_any (n : Nat) : ∀ (at' : Nat) (A : List (List UInt8)) (a : Option Addr) (cap : Nat) (x : List UInt8) (w : World), 1 ≤ n → n ≤ 65536 → at' < n → A.length = stepsN n at' → HsAt w a cap A → x.length = 32 → Laid1 w → 2 ≤ w.heap.size →
    Calls Tryd.prog 84 #[.int .i64 n, .int .i64 at', .slice a A.length cap, .agg (hb32 x)] w fun e w' => e = .returned (.agg (hb32 (upH n at' A x))) ∧ Turn no w w' := by
  induction n using Nat.strongRecOn with
  | _ n ih =>
    intro at' A a cap x w h1 h2 h3 hA hH hx hl hsz
    obtain ⟨z, hz, hzs⟩ : ∃ z : Array Value, z = #[.int .u8 0, .int .u8 0, .int .u8 0, .int .u8 0, .int .u8 0, .int .u8 0, .int .u8 0, .int .u8 0, .int .u8 0, .int .u8 0, .int .u8 0, .int .u8 0, .int .u8 0, .int .u8 0, .int .u8 0, .int .u8 0, .int .u8 0, .int .u8 0, .int .u8 0, .int .u8 0, .int .u8 0, .int .u8 0, .int .u8 0, .int .u8 0, .int .u8 0, .int .u8 0, .int .u8 0, .int .u8 0, .int .u8 0, .int .u8 0, .int .u8 0, .int .u8 0] ∧ z.size = 32 := ⟨_, rfl, rfl⟩
    have sX := hb32_size hx
    have oX := hb32_one x
    have iX := hb32_info hx
    have T0 : Turn no w ((w.alloc (.cells (hb32 x) 23)).alloc (.cells z 23)) := ((Turn.refl no w).alloc _).alloc _
    have RX : Row ((w.alloc (.cells (hb32 x) 23)).alloc (.cells z 23)) w.heap.size (hb32 x) 23 := (Row.new w _ 23).alloc _
    have RZ : Row ((w.alloc (.cells (hb32 x) 23)).alloc (.cells z 23)) (w.heap.size + 1) z 23 := Row.newAt _ _ _ _ (by simp)
    by_cases h : n = 1
    · subst h
      rw [upH_one]
      generalize hb32 x = X at *
      obtain ⟨w0, hw0⟩ : ∃ w0, (w.alloc (.cells X 23)).alloc (.cells z 23) = w0 := ⟨_, rfl⟩
      rw [hw0] at T0 RX RZ
      clear ih hH hA
      go_enter Tryd.func84, Tryd.ntmps84
      go_upto_region 1 with fail
      rw [← hz]
      try rw [hw0]
      clear hw0
      go_wp2_with (first | (refine wpList_load_row rfl 23 (.tmp 7) rfl w.heap.size rfl 23 X _ _ RX Tryd.underlying23 rfl iX ?_) | (refine wpList_store_row rfl 23 (.tmp 8) (.tmp 13) rfl (w.heap.size + 1) X rfl rfl 23 z RZ iX (by omega) oX ?_))
      refine bodyPost_ret (v := .agg X) ?_ rfl ⟨rfl, T0.setRow _ _ (fun q => by omega)⟩
      exact results_cell_row (P := Tryd.prog) Tryd.results84 _ _ (w.heap.size + 1) 23 X (0, 0) _ rfl (setRow_heap _ _ _ _ _ _ RZ) Tryd.underlying23 rfl iX
    · have hk1 := splitN_lt n (by omega)
      have hk2 := splitN_pos n
      have hsp := fun W => split_any W n (by omega) h2
      have hn1 : ((n : Int) == 1) = false := by simp; omega
      have hle : A.length ≤ 65537 := by rw [hA]; have := stepsN_le n at'; omega
      by_cases ha : at' < splitN n
      · have hst := stepsN_left n at' (by omega) ha
        have hA0 : 0 < A.length := by omega
        obtain ⟨b, off, rfl, cl, ll⟩ := hH.last hA0
        have hll : A.length ≤ cap := hH.le
        have hcm := hH.cap
        have hdl : A.dropLast.length = A.length - 1 := List.length_dropLast
        have r1 := fun W (T : Turn no w W) => ih (splitN n) hk1 at' A.dropLast (some ⟨b, off, none⟩) cap x W hk2 (by omega) ha (by rw [hdl]; omega) (hH.turn_no T).init hx (hl.turn T (fun q => q)) (by have := T.size; omega)
        rw [upH_left n at' A x (by omega) ha]
        have lU := upH_len (splitN n) at' A.dropLast x hx
        rw [hdl] at r1
        generalize upH (splitN n) at' A.dropLast x = U at *
        generalize A.getLastD [] = la at *
        have hin := fun W (T : Turn no w W) => inner13 W U la lU ll (hl.turn T (fun q => q)) (by have := T.size; omega)
        have hs := hv_size (1 :: (U ++ la))
        have o1 := hv_one (1 :: (U ++ la))
        have hi := hv_info (1 :: (U ++ la))
        have hh : hb32 (hashOf (1 :: (U ++ la))) = hv (1 :: (U ++ la)) := rfl
        rw [hh]
        have hin' : ∀ W, Turn no w W → Calls Tryd.prog 28 #[.agg (hb32 U), .agg (hb32 la)] W fun e w' => e = .returned (.agg (hv (1 :: (U ++ la)))) ∧ Turn no W w' := hin
        have sU := hb32_size lU
        have HL : Shut (∀ W, Turn no w W → W.rangeAt b (off + (A.length - 1) * 32) (hb32 la).toList) := fun W T => by
          have e : (hb32 la).toList = la.map bv := by simp [hb32]
          rw [e]
          exact fun i v hi => T.keep (cl i v hi) (fun q => q)
        have iL : (Tryd.prog.info? 23).map (·.size) = some (hb32 la).toList.length := by rw [Array.length_toList]; exact hb32_info ll
        have HR1 := shut r1
        have HIN := shut hin'
        clear hin hin' r1 hh ih cl hH hdl hst hA lU ll
        generalize hv (1 :: (U ++ la)) = H at *
        generalize hb32 U = UA at *
        generalize hb32 la = LA at *
        generalize hb32 x = X at *
        generalize splitN n = k at *
        obtain ⟨L, hL⟩ : ∃ L, A.length = L + 1 := ⟨A.length - 1, by omega⟩
        rw [hL] at HR1 HL hle hll ⊢
        rw [Nat.add_sub_cancel] at HR1 HL
        clear hL hA0
        obtain ⟨w0, hw0⟩ : ∃ w0, (w.alloc (.cells X 23)).alloc (.cells z 23) = w0 := ⟨_, rfl⟩
        rw [hw0] at T0 RX RZ
        have iXl : (Tryd.prog.info? 23).map (·.size) = some X.toList.length := by rw [Array.length_toList]; exact iX
        have hwr : IntKind.i64.wrap (((L + 1 : Nat) : Int) - 1) = (L : Int) := by rw [IntKind.wrap_i64]; omega
        have ha' : (at' : Int) < (k : Int) := by omega
        have hcap : ¬ cap < L := by omega
        have hcm' : cap ≤ 9223372036854775807 := by simp only [maxLen] at hcm; omega
        clear hcm
        go_enter Tryd.func84, Tryd.ntmps84
        go_upto_region 1 with fail
        rw [← hz]
        try rw [hw0]
        clear hw0 hz
        go_upto_region 5 with (go_at_call 79; refine (hsp _).mono ?_; clear hsp; rintro e w' ⟨rfl, hw'⟩; subst hw')
        refine wp_region_held_drew (S := fun w' => (∃ z, Row w' (w.heap.size + 1) z 23 ∧ z.size = 32) ∧ Row w' w.heap.size X 23 ∧ Turn no w w') (by kernel_rfl) ⟨⟨z, RZ, hzs⟩, RX, T0.drew⟩ (fun hHeld => ?_)
        refine' wpAnyH_take (i := 0) (v := .int .i64 k) rfl (by kernel_rfl) (by kernel_rfl) (by kernel_rfl) (fun _ _ _ h => h) (Or.inl ⟨by kernel_rfl, fun W hW => ?y1⟩) hHeld ?r1
        · go_simp
        refine' wpAnyH_take (i := 1) (v := .int .i64 at') rfl (by kernel_rfl) (by kernel_rfl) (by kernel_rfl) (fun _ _ _ h => h) (Or.inl ⟨by kernel_rfl, fun W hW => ?y2⟩) hHeld ?r2
        · go_simp
        refine' wpAnyH_take (i := 2) (v := .slice (some ⟨b, off, none⟩) (L + 1) cap) rfl (by kernel_rfl) (by kernel_rfl) (by kernel_rfl) (fun _ _ _ h => h) (Or.inl ⟨by kernel_rfl, fun W hW => ?y3⟩) hHeld ?r3
        · go_simp
        refine' wpAnyH_take (i := 3) (v := .int .i64 L) rfl (by kernel_rfl) (by kernel_rfl) (by kernel_rfl) (fun _ _ _ h => h) (Or.inl ⟨by kernel_rfl, fun W hW => ?y4⟩) hHeld ?r4
        · go_simp
        refine' wpAnyH_take (i := 4) (v := .slice (some ⟨b, off, none⟩) L cap) rfl (by kernel_rfl) (by kernel_rfl) (by kernel_rfl) (fun _ _ _ h => h) (Or.inl ⟨by kernel_rfl, fun W hW => ?y5⟩) hHeld ?r5
        · go_simp
        refine' wpAnyH_take (i := 5) (v := .agg X) rfl (by kernel_rfl) (by kernel_rfl) (by kernel_rfl) (fun _ _ _ h => h) (yieldsIf_load_mid (by kernel_rfl) 23 (.tmp 7) rfl w.heap.size 0 (by kernel_rfl) X.toList _ (fun W h => h.2.1.rng) Tryd.underlying23 rfl iXl) hHeld ?s0
        refine' wpAnyH_take (i := 7) (v := .slice (some ⟨b, off, none⟩) (L + 1) cap) rfl (by kernel_rfl) (by kernel_rfl) (by kernel_rfl) (fun _ _ _ h => h) (Or.inl ⟨by kernel_rfl, fun W hW => ?y6⟩) hHeld ?r6
        · go_simp
        refine' wpAnyH_take (i := 8) (v := .int .i64 L) rfl (by kernel_rfl) (by kernel_rfl) (by kernel_rfl) (fun _ _ _ h => h) (Or.inl ⟨by kernel_rfl, fun W hW => ?y7⟩) hHeld ?r7
        · go_simp
        refine' wpAnyH_take (i := 9) (v := .pointer (some ⟨b, off + L * 32, none⟩)) rfl (by kernel_rfl) (by kernel_rfl) (by kernel_rfl) (fun _ _ _ h => h) (Or.inl ⟨by kernel_rfl, fun W hW => ?y8⟩) hHeld ?r8
        · go_simp
          intro q
          omega
        refine' wpAnyH_take (i := 10) (v := .agg LA) rfl (by kernel_rfl) (by kernel_rfl) (by kernel_rfl) (fun _ _ _ h => h) (yieldsIf_load_mid (by kernel_rfl) 23 (.tmp 31) rfl b (off + L * 32) (by kernel_rfl) LA.toList _ (fun W h => HL.out W h.2.2) Tryd.underlying23 rfl iL) hHeld ?s1
        refine wpAnyH_ready (rs := [6]) (by kernel_rfl) (by simp) ?_
        refine AllReadyH.cons rfl (fun K hK => ?_) AllReadyH.nil
        go_simp
        refine (HR1.out _ hHeld.2.2).mono ?_
        rintro e w2 ⟨rfl, t2⟩
        refine hK.out _ _ ⟨by obtain ⟨z, hz1, hz2⟩ := hHeld.1; exact ⟨z, hz1.turn t2 (fun q => q), hz2⟩, hHeld.2.1.turn t2 (fun q => q), hHeld.2.2.then_no t2⟩ (fun hHeld => ?_)
        clear hK
        refine wpAnyH_ready (rs := [11]) (by kernel_rfl) (by simp) ?_
        refine AllReadyH.cons rfl (fun K hK => ?_) AllReadyH.nil
        go_simp
        refine (HIN.out _ hHeld.2.2).mono ?_
        rintro e w6 ⟨rfl, t6⟩
        refine hK.out _ _ ⟨by obtain ⟨z, hz1, hz2⟩ := hHeld.1; exact ⟨z, hz1.turn t6 (fun q => q), hz2⟩, hHeld.2.1.turn t6 (fun q => q), hHeld.2.2.then_no t6⟩ (fun hHeld => ?_)
        clear hK
        refine wpAnyH_ready (rs := [12]) (by kernel_rfl) (by simp) ?_
        refine AllReadyH.cons rfl (fun K hK => ?_) AllReadyH.nil
        obtain ⟨⟨z6, RZ6, hz6⟩, RX6, T6⟩ := hHeld
        rw [if_pos (by kernel_rfl)]
        refine wp_store_row 23 _ _ rfl (w.heap.size + 1) H rfl rfl 23 z6 RZ6 hi (by omega) o1 ?_
        have hz' : (w6.setRow (w.heap.size + 1) H).heap[w.heap.size + 1]? = some (.cells H 23 (0, 0)) := setRow_heap _ _ _ _ _ _ RZ6
        have T7 : Turn no w (w6.setRow (w.heap.size + 1) H) := T6.setRow _ _ (fun q => by omega)
        refine hK.out _ _ ⟨⟨H, hz', hs⟩, Row.setOther RX6 (by omega) _, T7⟩ (fun hHeld => ?_)
        clear hK
        refine wpAnyH_done (by kernel_rfl) ?_ _
        go_wp2_with fail
        refine bodyPost_ret (v := .agg H) ?_ rfl ⟨rfl, T7⟩
        exact results_cell_row (P := Tryd.prog) Tryd.results84 _ _ (w.heap.size + 1) 23 H (0, 0) _ rfl hz' Tryd.underlying23 rfl hi
      · have hst := stepsN_right n at' (by omega) ha
        have hA0 : 0 < A.length := by omega
        obtain ⟨b, off, rfl, cl, ll⟩ := hH.last hA0
        have hll : A.length ≤ cap := hH.le
        have hcm := hH.cap
        have hdl : A.dropLast.length = A.length - 1 := List.length_dropLast
        have r1 := fun W (T : Turn no w W) => ih (n - splitN n) (by omega) (at' - splitN n) A.dropLast (some ⟨b, off, none⟩) cap x W (by omega) (by omega) (by omega) (by rw [hdl]; omega) (hH.turn_no T).init hx (hl.turn T (fun q => q)) (by have := T.size; omega)
        rw [upH_right n at' A x (by omega) ha]
        have lU := upH_len (n - splitN n) (at' - splitN n) A.dropLast x hx
        rw [hdl] at r1
        generalize upH (n - splitN n) (at' - splitN n) A.dropLast x = U at *
        generalize A.getLastD [] = la at *
        have hin := fun W (T : Turn no w W) => inner13 W la U ll lU (hl.turn T (fun q => q)) (by have := T.size; omega)
        have hs := hv_size (1 :: (la ++ U))
        have o1 := hv_one (1 :: (la ++ U))
        have hi := hv_info (1 :: (la ++ U))
        have hh : hb32 (hashOf (1 :: (la ++ U))) = hv (1 :: (la ++ U)) := rfl
        rw [hh]
        have hin' : ∀ W, Turn no w W → Calls Tryd.prog 28 #[.agg (hb32 la), .agg (hb32 U)] W fun e w' => e = .returned (.agg (hv (1 :: (la ++ U)))) ∧ Turn no W w' := hin
        have sU := hb32_size lU
        have HL : Shut (∀ W, Turn no w W → W.rangeAt b (off + (A.length - 1) * 32) (hb32 la).toList) := fun W T => by
          have e : (hb32 la).toList = la.map bv := by simp [hb32]
          rw [e]
          exact fun i v hi => T.keep (cl i v hi) (fun q => q)
        have iL : (Tryd.prog.info? 23).map (·.size) = some (hb32 la).toList.length := by rw [Array.length_toList]; exact hb32_info ll
        have HR1 := shut r1
        have HIN := shut hin'
        clear hin hin' r1 hh ih cl hH hdl hst hA lU ll
        generalize hv (1 :: (la ++ U)) = H at *
        generalize hb32 U = UA at *
        generalize hb32 la = LA at *
        generalize hb32 x = X at *
        generalize splitN n = k at *
        obtain ⟨L, hL⟩ : ∃ L, A.length = L + 1 := ⟨A.length - 1, by omega⟩
        rw [hL] at HR1 HL hle hll ⊢
        rw [Nat.add_sub_cancel] at HR1 HL
        clear hL hA0
        obtain ⟨nk, hnk⟩ : ∃ nk, n - k = nk := ⟨_, rfl⟩
        obtain ⟨ak, hak⟩ : ∃ ak, at' - k = ak := ⟨_, rfl⟩
        rw [hnk, hak] at HR1
        have e1 : IntKind.i64.wrap ((n : Int) - (k : Int)) = (nk : Int) := by rw [IntKind.wrap_i64]; omega
        have e2 : IntKind.i64.wrap ((at' : Int) - (k : Int)) = (ak : Int) := by rw [IntKind.wrap_i64]; omega
        obtain ⟨w0, hw0⟩ : ∃ w0, (w.alloc (.cells X 23)).alloc (.cells z 23) = w0 := ⟨_, rfl⟩
        rw [hw0] at T0 RX RZ
        have iXl : (Tryd.prog.info? 23).map (·.size) = some X.toList.length := by rw [Array.length_toList]; exact iX
        have hwr : IntKind.i64.wrap (((L + 1 : Nat) : Int) - 1) = (L : Int) := by rw [IntKind.wrap_i64]; omega
        have ha' : ¬ (at' : Int) < (k : Int) := by omega
        have hcap : ¬ cap < L := by omega
        have hcm' : cap ≤ 9223372036854775807 := by simp only [maxLen] at hcm; omega
        clear hcm hnk hak
        go_enter Tryd.func84, Tryd.ntmps84
        go_upto_region 1 with fail
        rw [← hz]
        try rw [hw0]
        clear hw0 hz
        go_upto_region 6 with (go_at_call 79; refine (hsp _).mono ?_; clear hsp; rintro e w' ⟨rfl, hw'⟩; subst hw')
        refine wp_region_held_drew (S := fun w' => (∃ z, Row w' (w.heap.size + 1) z 23 ∧ z.size = 32) ∧ Row w' w.heap.size X 23 ∧ Turn no w w') (by kernel_rfl) ⟨⟨z, RZ, hzs⟩, RX, T0.drew⟩ (fun hHeld => ?_)
        refine' wpAnyH_take (i := 0) (v := .slice (some ⟨b, off, none⟩) (L + 1) cap) rfl (by kernel_rfl) (by kernel_rfl) (by kernel_rfl) (fun _ _ _ h => h) (Or.inl ⟨by kernel_rfl, fun W hW => ?y9⟩) hHeld ?r9
        · go_simp
        refine' wpAnyH_take (i := 1) (v := .int .i64 L) rfl (by kernel_rfl) (by kernel_rfl) (by kernel_rfl) (fun _ _ _ h => h) (Or.inl ⟨by kernel_rfl, fun W hW => ?y10⟩) hHeld ?r10
        · go_simp
        refine' wpAnyH_take (i := 2) (v := .pointer (some ⟨b, off + L * 32, none⟩)) rfl (by kernel_rfl) (by kernel_rfl) (by kernel_rfl) (fun _ _ _ h => h) (Or.inl ⟨by kernel_rfl, fun W hW => ?y11⟩) hHeld ?r11
        · go_simp
          intro q
          omega
        refine' wpAnyH_take (i := 3) (v := .agg LA) rfl (by kernel_rfl) (by kernel_rfl) (by kernel_rfl) (fun _ _ _ h => h) (yieldsIf_load_mid (by kernel_rfl) 23 (.tmp 36) rfl b (off + L * 32) (by kernel_rfl) LA.toList _ (fun W h => HL.out W h.2.2) Tryd.underlying23 rfl iL) hHeld ?s3
        refine' wpAnyH_take (i := 4) (v := .int .i64 n) rfl (by kernel_rfl) (by kernel_rfl) (by kernel_rfl) (fun _ _ _ h => h) (Or.inl ⟨by kernel_rfl, fun W hW => ?y12⟩) hHeld ?r12
        · go_simp
        refine' wpAnyH_take (i := 5) (v := .int .i64 k) rfl (by kernel_rfl) (by kernel_rfl) (by kernel_rfl) (fun _ _ _ h => h) (Or.inl ⟨by kernel_rfl, fun W hW => ?y13⟩) hHeld ?r13
        · go_simp
        refine' wpAnyH_take (i := 6) (v := .int .i64 nk) rfl (by kernel_rfl) (by kernel_rfl) (by kernel_rfl) (fun _ _ _ h => h) (Or.inl ⟨by kernel_rfl, fun W hW => ?y14⟩) hHeld ?r14
        · go_simp
        refine' wpAnyH_take (i := 7) (v := .int .i64 at') rfl (by kernel_rfl) (by kernel_rfl) (by kernel_rfl) (fun _ _ _ h => h) (Or.inl ⟨by kernel_rfl, fun W hW => ?y15⟩) hHeld ?r15
        · go_simp
        refine' wpAnyH_take (i := 8) (v := .int .i64 k) rfl (by kernel_rfl) (by kernel_rfl) (by kernel_rfl) (fun _ _ _ h => h) (Or.inl ⟨by kernel_rfl, fun W hW => ?y16⟩) hHeld ?r16
        · go_simp
        refine' wpAnyH_take (i := 9) (v := .int .i64 ak) rfl (by kernel_rfl) (by kernel_rfl) (by kernel_rfl) (fun _ _ _ h => h) (Or.inl ⟨by kernel_rfl, fun W hW => ?y17⟩) hHeld ?r17
        · go_simp
        refine' wpAnyH_take (i := 10) (v := .slice (some ⟨b, off, none⟩) (L + 1) cap) rfl (by kernel_rfl) (by kernel_rfl) (by kernel_rfl) (fun _ _ _ h => h) (Or.inl ⟨by kernel_rfl, fun W hW => ?y18⟩) hHeld ?r18
        · go_simp
        refine' wpAnyH_take (i := 11) (v := .int .i64 L) rfl (by kernel_rfl) (by kernel_rfl) (by kernel_rfl) (fun _ _ _ h => h) (Or.inl ⟨by kernel_rfl, fun W hW => ?y19⟩) hHeld ?r19
        · go_simp
        refine' wpAnyH_take (i := 12) (v := .slice (some ⟨b, off, none⟩) L cap) rfl (by kernel_rfl) (by kernel_rfl) (by kernel_rfl) (fun _ _ _ h => h) (Or.inl ⟨by kernel_rfl, fun W hW => ?y20⟩) hHeld ?r20
        · go_simp
        refine' wpAnyH_take (i := 13) (v := .agg X) rfl (by kernel_rfl) (by kernel_rfl) (by kernel_rfl) (fun _ _ _ h => h) (yieldsIf_load_mid (by kernel_rfl) 23 (.tmp 7) rfl w.heap.size 0 (by kernel_rfl) X.toList _ (fun W h => h.2.1.rng) Tryd.underlying23 rfl iXl) hHeld ?s2
        refine wpAnyH_ready (rs := [14]) (by kernel_rfl) (by simp) ?_
        refine AllReadyH.cons rfl (fun K hK => ?_) AllReadyH.nil
        go_simp
        refine (HR1.out _ hHeld.2.2).mono ?_
        rintro e w2 ⟨rfl, t2⟩
        refine hK.out _ _ ⟨by obtain ⟨z, hz1, hz2⟩ := hHeld.1; exact ⟨z, hz1.turn t2 (fun q => q), hz2⟩, hHeld.2.1.turn t2 (fun q => q), hHeld.2.2.then_no t2⟩ (fun hHeld => ?_)
        clear hK
        refine wpAnyH_ready (rs := [15]) (by kernel_rfl) (by simp) ?_
        refine AllReadyH.cons rfl (fun K hK => ?_) AllReadyH.nil
        go_simp
        refine (HIN.out _ hHeld.2.2).mono ?_
        rintro e w6 ⟨rfl, t6⟩
        refine hK.out _ _ ⟨by obtain ⟨z, hz1, hz2⟩ := hHeld.1; exact ⟨z, hz1.turn t6 (fun q => q), hz2⟩, hHeld.2.1.turn t6 (fun q => q), hHeld.2.2.then_no t6⟩ (fun hHeld => ?_)
        clear hK
        refine wpAnyH_ready (rs := [16]) (by kernel_rfl) (by simp) ?_
        refine AllReadyH.cons rfl (fun K hK => ?_) AllReadyH.nil
        obtain ⟨⟨z6, RZ6, hz6⟩, RX6, T6⟩ := hHeld
        rw [if_pos (by kernel_rfl)]
        refine wp_store_row 23 _ _ rfl (w.heap.size + 1) H rfl rfl 23 z6 RZ6 hi (by omega) o1 ?_
        have hz' : (w6.setRow (w.heap.size + 1) H).heap[w.heap.size + 1]? = some (.cells H 23 (0, 0)) := setRow_heap _ _ _ _ _ _ RZ6
        have T7 : Turn no w (w6.setRow (w.heap.size + 1) H) := T6.setRow _ _ (fun q => by omega)
        refine hK.out _ _ ⟨⟨H, hz', hs⟩, Row.setOther RX6 (by omega) _, T7⟩ (fun hHeld => ?_)
        clear hK
        refine wpAnyH_done (by kernel_rfl) ?_ _
        go_wp2_with fail
        refine bodyPost_ret (v := .agg H) ?_ rfl ⟨rfl, T7⟩
        exact results_cell_row (P := Tryd.prog) Tryd.results84 _ _ (w.heap.size + 1) 23 H (0, 0) _ rfl hz' Tryd.underlying23 rfl hi
end Go.Proofs.YtieoomdbijpdhaaDoor

