/- A list's top, as the program finds it. -/
import Derived.Test.YtieoomdbijpdhaaDoorF3
import Derived.Test.YtieoomdbijpdhaaDoorInnersW
namespace Go.Proofs.YtieoomdbijpdhaaDoor
open Go.RowKit
set_option linter.unusedVariables false

set_option maxRecDepth 100000 in
set_option maxHeartbeats 4000000 in
theorem top_any (n : Nat) : ∀ (l : List (Value × List UInt8)) (b o cap : Nat) (w : World), l.length = n → Pcs w b o l → n ≤ cap → 1 ≤ n → n ≤ 65536 → (∀ x ∈ l, x.2.length ≤ 1048576) → Laid1 w → 2 ≤ w.heap.size →
    Calls Tryd.prog 51 #[.slice (some ⟨b, o, none⟩) n cap] w fun e w' => e = .returned (.agg (hb32 (topH (l.map (·.2))))) ∧ Turn no w w' := by
  induction n using Nat.strongRecOn with
  | _ n ih =>
    intro l b o cap w hln hP hcap h1 h2 hx hl hsz
    obtain ⟨z, hz, hzs⟩ : ∃ z : Array Value, z = #[.int .u8 0, .int .u8 0, .int .u8 0, .int .u8 0, .int .u8 0, .int .u8 0, .int .u8 0, .int .u8 0, .int .u8 0, .int .u8 0, .int .u8 0, .int .u8 0, .int .u8 0, .int .u8 0, .int .u8 0, .int .u8 0, .int .u8 0, .int .u8 0, .int .u8 0, .int .u8 0, .int .u8 0, .int .u8 0, .int .u8 0, .int .u8 0, .int .u8 0, .int .u8 0, .int .u8 0, .int .u8 0, .int .u8 0, .int .u8 0, .int .u8 0, .int .u8 0] ∧ z.size = 32 := ⟨_, rfl, rfl⟩
    have T0 : Turn no w (w.alloc (.cells z 23)) := (Turn.refl no w).alloc _
    have RZ := Row.new w z 23
    by_cases h : n = 1
    · subst h
      match l, hln with
      | [x], _ =>
        have hp := (hP.turn_no T0) 0 x rfl
        obtain ⟨xv, xb⟩ := x
        have hxb : xb.length ≤ 1048576 := hx (xv, xb) (by simp)
        simp only at hp
        rw [show topH ([(xv, xb)].map (·.2)) = hashOf (0 :: xb) from topH_one _ rfl]
        have hc := leaf20 _ xv xb hp.2 (hl.turn T0 (fun q => q)) (by have := T0.size; omega) (by omega)
        have c0 : w.cell? ⟨b, o, none⟩ = some xv := by have := (hP 0 (xv, xb) rfl).1; simpa using this
        have hbw : b < w.heap.size := World.block_lt_of_cell? w _ c0
        have hs := hv_size (0 :: xb)
        have h1' := hv_one (0 :: xb)
        have hi := hv_info (0 :: xb)
        have hh : hb32 (hashOf (0 :: xb)) = hv (0 :: xb) := rfl
        rw [hh]
        obtain ⟨ax, cx, rfl⟩ := hp.2.slice
        clear hh hp hx hP ih
        generalize hv (0 :: xb) = H at *
        rw [hz] at T0 RZ hc
        go_enter Tryd.func51, Tryd.ntmps51
        go_wp2_with fail
        refine hc.mono ?_
        rintro e w2 ⟨rfl, t2⟩
        have RZ2 := RZ.turn t2 (fun q => q)
        have T2 := T0.then_no t2
        go_wp2_with (refine wpList_store_row rfl 23 (.tmp 2) (.tmp 27) rfl w.heap.size H rfl rfl 23 _ RZ2 hi (by rw [hs]; rfl) h1' ?_)
        refine bodyPost_ret (v := .agg H) ?_ rfl ⟨rfl, T2.setRow _ _ (fun q => by omega)⟩
        exact results_cell_row (P := Tryd.prog) Tryd.results51 _ _ w.heap.size 23 H (0, 0) _ rfl (setRow_heap _ _ _ _ _ _ RZ2) Tryd.underlying23 rfl hi
    · have hk1 := splitN_lt n (by omega)
      have hk2 := splitN_pos n
      have hbw : b < w.heap.size := by
        have := (hP 0 l[0] (by simp)).1
        exact World.block_lt_of_cell? w _ this
      have hsp := fun W => split_any W n (by omega) h2
      have htk : (l.map (·.2)).take (splitN n) = (l.take (splitN n)).map (·.2) := by rw [List.map_take]
      have hdk : (l.map (·.2)).drop (splitN n) = (l.drop (splitN n)).map (·.2) := by rw [List.map_drop]
      have hml : (l.map (·.2)).length = n := by simpa using hln
      have htop := topH_more (l.map (·.2)) (by omega)
      rw [hml, htk, hdk] at htop
      rw [htop]
      have r1 := fun W (T : Turn no w W) => ih (splitN n) hk1 (l.take (splitN n)) b o cap W (by simp; omega) ((hP.turn_no T).take _) (by omega) hk2 (by omega) (fun x hx' => hx x (List.mem_of_mem_take hx')) (hl.turn T (fun q => q)) (by have := T.size; omega)
      have r2 := fun W (T : Turn no w W) => ih (n - splitN n) (by omega) (l.drop (splitN n)) b (o + splitN n) (cap - splitN n) W (by simp; omega) ((hP.turn_no T).drop _) (by omega) (by omega) (by omega) (fun x hx' => hx x (List.mem_of_mem_drop hx')) (hl.turn T (fun q => q)) (by have := T.size; omega)
      have lA := topH_len ((l.take (splitN n)).map (·.2))
      have lB := topH_len ((l.drop (splitN n)).map (·.2))
      generalize topH ((l.take (splitN n)).map (·.2)) = X at *
      generalize topH ((l.drop (splitN n)).map (·.2)) = Y at *
      have hin := fun W (T : Turn no w W) => inner13 W X Y lA lB (hl.turn T (fun q => q)) (by have := T.size; omega)
      have hs := hv_size (1 :: (X ++ Y))
      have h1' := hv_one (1 :: (X ++ Y))
      have hi := hv_info (1 :: (X ++ Y))
      have hh : hb32 (hashOf (1 :: (X ++ Y))) = hv (1 :: (X ++ Y)) := rfl
      rw [hh]
      have sA : (hb32 X).size = 32 := by simpa [hb32] using lA
      have sB : (hb32 Y).size = 32 := by simpa [hb32] using lB
      have oA : (hb32 X).all (·.oneCell') = true := by simp [hb32, bv, Value.oneCell']
      have oB : (hb32 Y).all (·.oneCell') = true := by simp [hb32, bv, Value.oneCell']
      have iA : (Tryd.prog.info? 23).map (·.size) = some (hb32 X).size := by rw [sA]; exact size35
      have iB : (Tryd.prog.info? 23).map (·.size) = some (hb32 Y).size := by rw [sB]; exact size35
      have hin' : ∀ W, Turn no w W → Calls Tryd.prog 28 #[.agg (hb32 X), .agg (hb32 Y)] W fun e w' => e = .returned (.agg (hv (1 :: (X ++ Y)))) ∧ Turn no W w' := hin
      clear hin hh htop htk hdk hml ih hx
      generalize hv (1 :: (X ++ Y)) = H at *
      generalize hb32 X = A at *
      generalize hb32 Y = B at *
      generalize splitN n = k at *
      have hn0 : ((n : Int) == 0) = false := by simp; omega
      have hn1 : ((n : Int) == 1) = false := by simp; omega
      have hkc : (k : Int) ≤ (cap : Int) := by omega
      have hkn : (k : Int) ≤ (n : Int) := by omega
      have hkne : ¬ cap = k := by omega
      rw [hz] at T0 RZ
      go_enter Tryd.func51, Tryd.ntmps51
      go_wp2_with fail
      refine (hsp _).mono ?_
      rintro e w' ⟨rfl, rfl⟩
      go_wp2_with fail
      rw [← hz] at T0 RZ ⊢
      generalize w.alloc (.cells z 23) = w0 at *
      clear hz
      refine wp_region_held_drew (S := fun w' => (∃ z, Row w' w.heap.size z 23 ∧ z.size = 32) ∧ Turn no w w') (by kernel_rfl) ⟨⟨z, RZ, hzs⟩, T0.drew⟩ (fun hHeld => ?_)
      refine' wpAnyH_take (i := 0) (v := .slice (some ⟨b, o, none⟩) n cap) rfl (by kernel_rfl) (by kernel_rfl) (by kernel_rfl) (fun _ _ _ h => h) (Or.inl ⟨by rfl, fun W hW => ?y0⟩) hHeld ?r0
      · go_simp
      refine' wpAnyH_take (i := 1) (v := .int .i64 (k : Int)) rfl (by kernel_rfl) (by kernel_rfl) (by kernel_rfl) (fun _ _ _ h => h) (Or.inl ⟨by rfl, fun W hW => ?y1⟩) hHeld ?r1
      · go_simp
      refine' wpAnyH_take (i := 2) (v := .slice (some ⟨b, o, none⟩) k cap) rfl (by kernel_rfl) (by kernel_rfl) (by kernel_rfl) (fun _ _ _ h => h) (Or.inl ⟨by rfl, fun W hW => ?y2⟩) hHeld ?r2
      · go_simp
      refine' wpAnyH_take (i := 4) (v := .slice (some ⟨b, o, none⟩) n cap) rfl (by kernel_rfl) (by kernel_rfl) (by kernel_rfl) (fun _ _ _ h => h) (Or.inl ⟨by rfl, fun W hW => ?y4⟩) hHeld ?r4
      · go_simp
      refine' wpAnyH_take (i := 5) (v := .int .i64 (k : Int)) rfl (by kernel_rfl) (by kernel_rfl) (by kernel_rfl) (fun _ _ _ h => h) (Or.inl ⟨by rfl, fun W hW => ?y5⟩) hHeld ?r5
      · go_simp
      refine' wpAnyH_take (i := 6) (v := .slice (some ⟨b, o + k, none⟩) (n - k) (cap - k)) rfl (by kernel_rfl) (by kernel_rfl) (by kernel_rfl) (fun _ _ _ h => h) (Or.inl ⟨by rfl, fun W hW => ?y6⟩) hHeld ?r6
      · go_simp
      refine wpAnyH_ready (rs := [3]) (by kernel_rfl) (by simp) ?_
      refine AllReadyH.cons rfl (fun K hK => ?_) AllReadyH.nil
      go_simp
      refine (r1 _ hHeld.2).mono ?_
      rintro e w2 ⟨rfl, t2⟩
      have H2 : (∃ z, Row w2 w.heap.size z 23 ∧ z.size = 32) ∧ Turn no w w2 := ⟨by obtain ⟨z, hz1, hz2⟩ := hHeld.1; exact ⟨z, hz1.turn t2 (fun q => q), hz2⟩, hHeld.2.then_no t2⟩
      go_wp2_with fail
      refine hK.out _ _ H2 (fun hHeld => ?_)
      clear hK
      refine wpAnyH_ready (rs := [7]) (by kernel_rfl) (by simp) ?_
      refine AllReadyH.cons rfl (fun K hK => ?_) AllReadyH.nil
      go_simp
      refine (r2 _ hHeld.2).mono ?_
      rintro e w4 ⟨rfl, t4⟩
      have H4 : (∃ z, Row w4 w.heap.size z 23 ∧ z.size = 32) ∧ Turn no w w4 := ⟨by obtain ⟨z, hz1, hz2⟩ := hHeld.1; exact ⟨z, hz1.turn t4 (fun q => q), hz2⟩, hHeld.2.then_no t4⟩
      go_wp2_with fail
      refine hK.out _ _ H4 (fun hHeld => ?_)
      clear hK
      refine wpAnyH_ready (rs := [8]) (by kernel_rfl) (by simp) ?_
      refine AllReadyH.cons rfl (fun K hK => ?_) AllReadyH.nil
      go_simp
      refine (hin' _ hHeld.2).mono ?_
      rintro e w6 ⟨rfl, t6⟩
      have H6 : (∃ z, Row w6 w.heap.size z 23 ∧ z.size = 32) ∧ Turn no w w6 := ⟨by obtain ⟨z, hz1, hz2⟩ := hHeld.1; exact ⟨z, hz1.turn t6 (fun q => q), hz2⟩, hHeld.2.then_no t6⟩
      go_wp2_with fail
      refine hK.out _ _ H6 (fun hHeld => ?_)
      clear hK
      refine wpAnyH_ready (rs := [9]) (by kernel_rfl) (by simp) ?_
      refine AllReadyH.cons rfl (fun K hK => ?_) AllReadyH.nil
      obtain ⟨z6, RZ6, hz6⟩ := hHeld.1
      have T6 := hHeld.2
      rw [if_pos (by rfl)]
      refine wp_store_row 23 _ _ rfl w.heap.size H rfl rfl 23 z6 RZ6 hi (by omega) h1' ?_
      have hz' : (w6.setRow w.heap.size H).heap[w.heap.size]? = some (.cells H 23 (0, 0)) := setRow_heap _ _ _ _ _ _ RZ6
      have T7 : Turn no w (w6.setRow w.heap.size H) := T6.setRow _ _ (fun q => by omega)
      refine hK.out _ _ ⟨⟨H, hz', hs⟩, T7⟩ (fun hHeld => ?_)
      clear hK
      refine wpAnyH_done (by kernel_rfl) ?_ _
      go_wp2_with fail
      refine bodyPost_ret (v := .agg H) ?_ rfl ⟨rfl, T7⟩
      exact results_cell_row (P := Tryd.prog) Tryd.results51 _ _ w.heap.size 23 H (0, 0) _ rfl hz' Tryd.underlying23 rfl hi
end Go.Proofs.YtieoomdbijpdhaaDoor

