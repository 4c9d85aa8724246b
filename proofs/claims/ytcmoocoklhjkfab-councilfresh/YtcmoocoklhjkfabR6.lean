/- Renew of the program. -/
import Derived.Test.YtcmoocoklhjkfabR5
import Derived.Test.YtcmoocoklhjkfabNewsW
namespace Go.Proofs.Ytcmoocoklhjkfab
open Go.RowKit
set_option linter.unusedVariables false

theorem tdiv_near (X Y r t2 : Int) (hr : 0 < r) (ht : 0 ≤ t2) (h : X - Y ≤ t2 * r) : X.tdiv r - Y.tdiv r ≤ t2 := by
  have x1 := Int.mul_tdiv_add_tmod X r
  have y1 := Int.mul_tdiv_add_tmod Y r
  have x2 := tmod_lt X r hr
  have y2 := tmod_lt Y r hr
  by_cases q : X.tdiv r - Y.tdiv r ≤ t2
  · exact q
  · exfalso
    have e : r * (X.tdiv r) - r * (Y.tdiv r) = r * (X.tdiv r - Y.tdiv r) := by rw [Int.mul_sub]
    have e2 : r * (t2 + 1) ≤ r * (X.tdiv r - Y.tdiv r) := Int.mul_le_mul_of_nonneg_left (by omega) (by omega)
    have e3 : r * (t2 + 1) = t2 * r + r := by rw [Int.mul_add, Int.mul_comm]; omega
    have e4 : r + X.tmod r - Y.tmod r ≤ 0 := by omega
    have hX : X < 0 := by
      rcases Int.lt_or_le X 0 with q | q
      · exact q
      · have := Int.tmod_nonneg r q
        omega
    have hY : 0 < Y := by
      rcases Int.lt_or_le 0 Y with q | q
      · exact q
      · have h1 : 0 ≤ (-Y).tmod r := Int.tmod_nonneg r (by omega)
        rw [Int.neg_tmod] at h1
        omega
    have h1 : 0 ≤ Y.tdiv r := Int.tdiv_nonneg (by omega) (by omega)
    have h2 : 0 ≤ (-X).tdiv r := Int.tdiv_nonneg (by omega) (by omega)
    rw [Int.neg_tdiv] at h2
    omega
theorem narr_len (t2 : Nat) (l : List Mb) : (narr t2 l).length = l.length := by unfold narr; split <;> simp
theorem cent_len (l : List Mb) : (cent l).length = l.length := by simp [cent]
theorem apart_le (l : List Mb) (x y : Mb) (hx : x ∈ l) (hy : y ∈ l) : x.pr - y.pr ≤ apartN l := by
  obtain ⟨i, hi⟩ := List.getElem?_of_mem hx
  obtain ⟨j, hj⟩ := List.getElem?_of_mem hy
  have h1 := (hiK_ge l l.length i x (List.getElem?_eq_some_iff.1 hi).1 hi).1
  have h2 := (hiK_ge l l.length j y (List.getElem?_eq_some_iff.1 hj).1 hj).2
  unfold apartN
  omega
theorem narr_near (t2 : Nat) (l : List Mb) (ht : 0 < t2) : ∀ x ∈ narr t2 l, ∀ y ∈ narr t2 l, x.pr - y.pr ≤ t2 := by
  unfold narr
  split
  · intro x hx y hy
    have := apart_le l x y hx hy
    omega
  · intro x hx y hy
    obtain ⟨X, hX, rfl⟩ := List.mem_map.1 hx
    obtain ⟨Y, hY, rfl⟩ := List.mem_map.1 hy
    have h1 := apart_le l X Y hX hY
    have h2 := rN_mul (apartN l) t2 ht
    refine tdiv_near X.pr Y.pr (rN (apartN l) t2) t2 ?_ (by omega) ?_
    · have : 1 ≤ rN (apartN l) t2 := Nat.le_add_left _ _
      omega
    · have h3 : ((apartN l : Nat) : Int) ≤ ((t2 * rN (apartN l) t2 : Nat) : Int) := by omega
      rw [Int.natCast_mul] at h3
      omega
theorem Abs.narr {B : Nat} {l : List Mb} (h : Abs B l) (t2 : Nat) : Abs B (narr t2 l) := by
  unfold Ytcmoocoklhjkfab.narr
  split
  · exact h
  · intro m hm
    obtain ⟨x, hx, rfl⟩ := List.mem_map.1 hm
    have h1 := h x hx
    have : (x.pr.tdiv (rN (apartN l) t2)).natAbs ≤ x.pr.natAbs := by rw [Int.natAbs_tdiv]; exact Nat.div_le_self _ _
    simp only [divM]
    omega
/-- How far a priority is from the average. -/
theorem near_avg (t2 : Nat) (l : List Mb) (h0 : 0 < l.length) (h : ∀ x ∈ l, ∀ y ∈ l, x.pr - y.pr ≤ t2) : ∀ m ∈ l, -(t2 : Int) ≤ m.pr - sumP l / l.length ∧ m.pr - sumP l / l.length ≤ t2 := by
  intro m hm
  have := avg_between l (m.pr - t2) (m.pr + t2) h0 (fun y hy => by
    have h1 := h m hm y hy
    have h2 := h y hy m hm
    omega)
  omega
def renewL (c l : List Mb) : List Mb := cent (narr (2 * tot l) (l.map (tkM c (tot l))))
def renewE (c l : List Mb) : Int := if soundE c ≠ 0 then soundE c else weighE l
theorem took_abs (c l : List Mb) (t : Nat) (hc : soundE c = 0) (ht : t ≤ 1152921504606846975) : Abs 8070450532247928832 (l.map (tkM c t)) := by
  intro m hm
  obtain ⟨x, hx, rfl⟩ := List.mem_map.1 hm
  simp only [tkM]
  have hcb := sound_ok c hc
  have htc := (weigh_ok c hcb.1).2.2.2
  unfold top at htc
  rcases idx_spec c x.ad with q | ⟨i, y, q, hy, _⟩
  · rw [pri_none c t x.ad q]
    omega
  · rw [pri_some c t x.ad i y q hy]
    have := hcb.2 y (List.mem_of_getElem? hy)
    omega
theorem tk_keys (c l : List Mb) (t : Nat) : keys (l.map (tkM c t)) = keys l := by simp [keys, tkM, Function.comp_def]
theorem narr_keys (t2 : Nat) (l : List Mb) : keys (narr t2 l) = keys l := by
  unfold narr
  split
  · rfl
  · simp [keys, divM, Function.comp_def]
theorem cent_keys (l : List Mb) : keys (cent l) = keys l := by simp [keys, cent, subM, Function.comp_def]
theorem renew_keys (c l : List Mb) : keys (renewL c l) = keys l := by unfold renewL; rw [cent_keys, narr_keys, tk_keys]
theorem renew_len (c l : List Mb) : (renewL c l).length = l.length := by unfold renewL; rw [cent_len, narr_len, List.length_map]
/-- What Renew answers keeps within two totals. -/
theorem renew_near (c l : List Mb) (hl : weighE l = 0) : ∀ m ∈ renewL c l, -(2 * (tot l : Int)) ≤ m.pr ∧ m.pr ≤ 2 * tot l := by
  intro m hm
  unfold renewL cent at hm
  obtain ⟨x, hx, rfl⟩ := List.mem_map.1 hm
  have hp := tot_pos l hl
  have hn := (weigh_ok l hl).1
  have := near_avg (2 * tot l) _ (by rw [narr_len, List.length_map]; omega) (narr_near (2 * tot l) (l.map (tkM c (tot l))) (by omega)) x hx
  simp only [subM]
  omega
theorem renew_sound (c l : List Mb) (hl : weighE l = 0) : soundE (renewL c l) = 0 := by
  refine sound_end _ (by rw [keys_weigh (renew_keys c l)]; exact hl) (fun m hm => ?_)
  have := renew_near c l hl m hm
  rw [keys_tot (renew_keys c l)]
  simp [wideB]
  omega

set_option maxRecDepth 100000 in
set_option maxHeartbeats 1000000 in
theorem renew11_yes (w : World) (vc v : Value) (c l : List Mb) (hc : Ms w vc c) (h : Ms w v l) (hE : soundE c = 0) (hL : weighE l = 0) : Calls Try.prog 11 #[.agg #[vc], v] w fun e w' => ∃ u, e = .returned (.tuple #[.agg #[u], .int .i64 0]) ∧ Made w.heap.size w' u (renewL c l) ∧ Turn no w w' := by
  have T0 : Turn no w ((w.alloc (.cells #[vc] 26)).alloc (.cells #[.slice none 0 0] 26)) := ((Turn.refl no w).alloc _).alloc _
  have B0 := (Bx.new w vc 26).turn_no ((Turn.refl no _).alloc (.cells #[.slice none 0 0] 26))
  have B1 := Bx.new (w.alloc (.cells #[vc] 26)) (.slice none 0 0) 26
  rw [show (w.alloc (.cells #[vc] 26)).heap.size = w.heap.size + 1 by simp] at B1
  have hz0 : w.heap.size + 1 < ((w.alloc (.cells #[vc] 26)).alloc (.cells #[.slice none 0 0] 26)).heap.size := by simp
  have hso := sound27 _ vc c (hc.turn_no T0)
  rw [hE] at hso
  obtain ⟨hn0, hn64, _, _⟩ := weigh_ok l hL
  have hwe := fun W (T : Turn no w W) => weigh36 W v l (h.turn_no T)
  rw [hL, weighT_ok l hL] at hwe
  have hcl := fun W (T : Turn no w W) => clone33 W v l (h.turn_no T) (by omega) hn64
  have htt := tot_le_top l hL
  have hpos := tot_pos l hL
  have hA := took_abs c l (tot l) hE htt
  have hA2 := hA.narr (2 * tot l)
  have hnear := near_avg (2 * tot l) (narr (2 * tot l) (l.map (tkM c (tot l)))) (by rw [narr_len, List.length_map]; omega) (narr_near (2 * tot l) (l.map (tkM c (tot l))) (by omega))
  have hrl : Hid (renewL c l = cent (narr (2 * tot l) (l.map (tkM c (tot l))))) := rfl
  obtain ⟨va, vcap, ev⟩ := h.shape
  obtain ⟨ac, capc, rfl, C⟩ := hc
  -- where the old council lies
  have hold : c ≠ [] := by
    intro q
    have := (weigh_ok c (sound_ok c hE).1).1
    rw [q] at this
    exact this rfl
  obtain ⟨y0, hy0⟩ : ∃ y, c[0]? = some y := by
    cases c with
    | nil => exact absurd rfl hold
    | cons y r => exact ⟨y, rfl⟩
  obtain ⟨b0, o0, eac, x0, xx⟩ := C.cells 0 y0 hy0
  subst eac
  have hb0 : b0 < w.heap.size := World.block_lt_of_cell? w _ x0
  clear h x0 xx hy0 hold hE hL
  obtain ⟨t, ht⟩ : ∃ t, Hid (tot l = t) := ⟨_, rfl⟩
  have ht' : tot l = t := ht.out
  rw [ht'] at hwe htt hpos hA hA2 hnear hrl
  have hln1 : (l.map (tkM c t)).length = l.length := List.length_map _
  have hln2 := narr_len (2 * t) (l.map (tkM c t))
  rw [hln1] at hln2
  rw [hln2] at hnear
  obtain ⟨nc, hnc⟩ : ∃ nc, Hid (c.length = nc) := ⟨_, rfl⟩
  have hnc' : c.length = nc := hnc.out
  obtain ⟨n, hn⟩ : ∃ n, Hid (l.length = n) := ⟨_, rfl⟩
  have hn' : l.length = n := hn.out
  rw [hn'] at hn0 hn64 hcl ev hln1 hln2 hnear
  rw [hnc'] at hso T0 B0 B1 hz0 ⊢
  clear ht' hn' hnc'
  have ht2 : (t : Int) ≤ 1152921504606846975 := by omega
  subst ev
  go_enter Try.func11, Try.ntmps11
  go_wp2_with fail
  refine hso.mono ?_
  rintro e w1 ⟨rfl, T1⟩
  have B02 := B0.turn_no T1
  have B12 := B1.turn_no T1
  have T := T0.then_no T1
  have hz1 := T1.size
  have hwe := hwe w1 T
  clear hso B0 B1
  go_wp2_with fail
  refine hwe.mono ?_
  rintro e w2 ⟨rfl, T2⟩
  have B02 := B02.turn_no T2
  have B12 := B12.turn_no T2
  have T := T.then_no T2
  have hz2 := T2.size
  have hcl := hcl w2 T
  clear hwe
  go_wp2_with fail
  refine hcl.mono ?_
  rintro e w3 ⟨g, cap, rfl, R, hg, T3⟩
  have B03 := B02.turn_no T3
  have B13 := B12.turn_no T3
  have T := T.then_no T3
  have hgw : w.heap.size + 1 < g := by omega
  have C3 := C.turn_no T
  have htk := take33 w3 g cap t l c (some ⟨b0, o0, none⟩) capc R C3 (fun x hx => by cases hx; show b0 ≠ g; omega) htt
  rw [show l.length = n from hn.out, show c.length = nc from hnc.out] at htk
  have k3 := B03.c
  clear hcl B02 B12 T1 T2 T3 T0 hz0 hz1 hz2 hg C R
  go_wp2_with fail
  refine htk.mono ?_
  rintro e w4 ⟨rfl, R4, T4⟩
  have hdr := draw34 w4 g cap (2 * t) _ R4 (by rw [hln1]; omega) (by rw [hln1]; exact hn64) hA (by omega) (by omega)
  rw [hln1, show ((2 * t : Nat) : Int) = 2 * (t : Int) by omega] at hdr
  have B04 := B13.turn T4 (fun q => by omega)
  have TT := T.of_no.trans T4 (fun _ _ q => q)
  clear htk k3 C3
  go_wp2_with fail
  refine hdr.mono ?_
  rintro e w5 ⟨rfl, R5, T5⟩
  have hce := centre35 w5 g cap _ R5 (by rw [hln2]; omega) (by rw [hln2]; exact hn64) hA2 (fun m hm => by rw [hln2]; have := hnear m hm; omega)
  rw [hln2, ← hrl.out] at hce
  have B05 := B04.turn T5 (fun q => by omega)
  have TT := TT.trans T5 (fun _ _ q => q)
  clear hdr R4 hA hA2
  go_wp2_with fail
  refine hce.mono ?_
  rintro e w6 ⟨rfl, R6, T6⟩
  have B06 := B05.turn T6 (fun q => by omega)
  have TT := TT.trans T6 (fun _ _ q => q)
  have c4 := B06.c
  have f4 := B06.f
  have c5 := B06.set (.slice (some ⟨g, 0, none⟩) n cap)
  have Tw : Turn no w w6 := TT.mono (fun b hb q => by omega)
  have R7 := R6.turn ((Turn.refl (fun b => b = w.heap.size + 1) w6).setCell (p := ⟨w.heap.size + 1, 0, none⟩) (fun _ => rfl) (.slice (some ⟨g, 0, none⟩) n cap)) (fun q => by omega)
  have MD : Made w.heap.size (w6.setCell ⟨w.heap.size + 1, 0, none⟩ (.slice (some ⟨g, 0, none⟩) n cap)) (.slice (some ⟨g, 0, none⟩) n cap) (renewL c l) := ⟨g, cap, by rw [renew_len, show l.length = n from hn.out], R7, by omega⟩
  have T8 := Tw.set0 (g := w.heap.size + 1) (by omega) (.slice (some ⟨g, 0, none⟩) n cap)
  clear hce R5 R6 R7 hnear B03 B13 B04 B05 B06 TT Tw
  go_wp2_with fail
  exact bodyPost_ret (v := .tuple #[.agg #[.slice (some ⟨g, 0, none⟩) n cap], .int .i64 0]) (by simp [results, Try.results11, go_sem, c5]) rfl ⟨_, rfl, MD, T8⟩
end Go.Proofs.Ytcmoocoklhjkfab
