/- Path. -/
import Derived.Test.YtieoomdbijpdhaaDoorCm
import Derived.Test.YtieoomdbijpdhaaDoorJ3
import Derived.Laws.ResultCell
namespace Go.Proofs.YtieoomdbijpdhaaDoor
open Go.RowKit
set_option linter.unusedVariables false

def z32 : List UInt8 := List.replicate 32 0
theorem z32_len : z32.length = 32 := rfl
/-- What Path answers: the number. -/
def pathE (t i : Int) (n m : Nat) : Int := if 1048576 < m then 4 else if fitsB t i n = true then 0 else 20
/-- What Path answers: the digest. -/
def pathH (t i : Int) (A : List (List UInt8)) (x : List UInt8) : List UInt8 := if pathE t i A.length x.length = 0 then hashOf (2 :: (numE t.toNat ++ upH t.toNat i.toNat A (hashOf (0 :: x)))) else z32
theorem pathH_len (t i : Int) (A : List (List UInt8)) (x : List UInt8) : (pathH t i A x).length = 32 := by
  unfold pathH
  split
  · exact hashOf_len _
  · rfl
theorem bld35 (w : World) : (Instr.build 23 #[]).run Tryd.prog w = .ok (.agg (hb32 z32)) w := by kernel_rfl
theorem zero35v (w : World) : (zeroValue 23).run Tryd.prog w = .ok (.agg (hb32 z32)) w := by kernel_rfl
section
variable {P : Program} {ops : Array Oper} {rest : List Oper} {op : Oper} {a : Act} {w : World} {Q : Exit → Act → World → Prop}
theorem wpList_want (hg : Region.wanted op (yielded ops a.tmps) = true) (h : ∀ K : Act → World → Prop, (∀ a w, wpList P ops Q rest a w → K a w) → op.wp P a w K Q) : wpList P ops Q (op :: rest) a w :=
  wpList_step fun K hK => by simp only [hg, if_true]; exact h K hK
theorem wpList_buildG (hgd : Region.wanted op (yielded ops a.tmps) = true) (t : TypeId) (ho : op.op = .build t #[]) (r : Value) (hr : (Instr.build t #[]).run P w = .ok r w) (h : wpList P ops Q rest (a.put op.dst r) w) : wpList P ops Q (op :: rest) a w :=
  wpList_want hgd fun K hK => by
    unfold Oper.wp execOp
    simp only [ho, Sem.run_bind, List.map_toArray, List.map_nil, hr, Result.andThen_ok, Sem.run_pure]
    exact hK _ _ h
end
set_option maxRecDepth 100000 in
set_option maxHeartbeats 4000000 in
theorem path25 (w : World) (t i : Int) (A : List (List UInt8)) (a : Option Addr) (cap : Nat) (hA : HsAt w a cap A) (v : Value) (x : List UInt8) (hb : Bs w v x) (hl : Laid1 w) (hsz : 2 ≤ w.heap.size) :
    Calls Tryd.prog 53 #[.agg #[.int .i64 t, .int .i64 i, .slice a A.length cap], v] w fun e w' => e = .returned (.tuple #[.agg (hb32 (pathH t i A x)), .int .i64 (pathE t i A.length x.length)]) ∧ Turn no w w' := by
  obtain ⟨n, hn⟩ : ∃ n, Hid (A.length = n) := ⟨_, rfl⟩
  have hn' := hn.out
  have hb2 := hb
  obtain ⟨xa, xc, rfl⟩ := hb2.slice
  have HZ : Shut ((hb32 z32).size = 32) := hb32_size z32_len
  have HZo := shut (hb32_one z32)
  have iZ := hb32_info z32_len
  have hzv := zero35v
  have hbd := shut bld35
  have T0 : Turn no w ((w.alloc (.cells #[.int .i64 t, .int .i64 i, .slice a n cap] 57)).alloc (.cells (hb32 z32) 23)) := ((Turn.refl no w).alloc _).alloc _
  have RP : Row ((w.alloc (.cells #[.int .i64 t, .int .i64 i, .slice a n cap] 57)).alloc (.cells (hb32 z32) 23)) w.heap.size #[.int .i64 t, .int .i64 i, .slice a n cap] 57 := (Row.new w _ 57).alloc _
  have RZ : Row ((w.alloc (.cells #[.int .i64 t, .int .i64 i, .slice a n cap] 57)).alloc (.cells (hb32 z32) 23)) (w.heap.size + 1) (hb32 z32) 23 := Row.newAt _ _ _ _ (by simp)
  obtain ⟨w0, hw0⟩ : ∃ w0, (w.alloc (.cells #[.int .i64 t, .int .i64 i, .slice a n cap] 57)).alloc (.cells (hb32 z32) 23) = w0 := ⟨_, rfl⟩
  rw [hw0] at T0 RP RZ
  have hf := fits_any w0 t i a n cap
  by_cases h1 : 1048576 < x.length
  · have he : pathE t i A.length x.length = 4 := if_pos h1
    have hp : pathH t i A x = z32 := by unfold pathH; rw [he]; rfl
    rw [he, hp, hn']
    generalize hb32 z32 = Z at *
    have h1' : (1048576 : Int) < (x.length : Int) := by omega
    generalize x.length = m at *
    clear hf hA hb hb2 he hp hn'
    go_enter Tryd.func53, Tryd.ntmps53
    go_upto_region 1 with fail
    try rw [hw0]
    clear hw0 hzv
    go_wp2_with (first | (guard_target =~ wpList _ _ _ ({ dst := _, op := Op.build 23 _, .. } :: _) _ _; refine wpList_buildG (by kernel_rfl) 23 rfl _ (hbd.out _) ?_) | (guard_target =~ wpList _ _ _ ({ dst := _, op := Op.store 23 _ _, .. } :: _) _ _; refine wpList_store_row rfl 23 (.tmp 4) (.tmp 9) rfl (w.heap.size + 1) Z rfl rfl 23 Z RZ iZ rfl HZo.out ?_))
    refine bodyPost_ret (v := .tuple #[.agg Z, .int .i64 4]) ?_ rfl ⟨rfl, T0.setRow _ _ (fun q => by omega)⟩
    exact results_cell_row_tmp (P := Tryd.prog) Tryd.results53 _ _ (w.heap.size + 1) 23 Z (0, 0) _ rfl (setRow_heap _ _ _ _ _ _ RZ) Tryd.underlying23 rfl iZ
  · have h1' : ¬ (1048576 : Int) < (x.length : Int) := by omega
    cases hfb : fitsB t i A.length with
    | false =>
      have he : pathE t i A.length x.length = 20 := by unfold pathE; rw [if_neg h1, hfb]; rfl
      have hp : pathH t i A x = z32 := by unfold pathH; rw [he]; rfl
      rw [he, hp, hn']
      rw [hn'] at hfb
      rw [hfb] at hf
      generalize hb32 z32 = Z at *
      generalize x.length = m at *
      have p0 := RP.cell 0 _ rfl
      have p1 := RP.cell 1 _ rfl
      have p2 := RP.cell 2 _ rfl
      clear hA hb hb2 he hp hn' hfb
      go_enter Tryd.func53, Tryd.ntmps53
      go_upto_region 1 with fail
      try rw [hw0]
      clear hw0 hzv
      go_wp2_with (first | (go_at_call 83; refine hf.mono ?_; clear hf; rintro e w2 ⟨rfl, t2⟩; have RZ2 := Row.turn RZ t2 (fun q => q); have T2 := T0.then_no t2) | (guard_target =~ wpList _ _ _ ({ dst := _, op := Op.build 23 _, .. } :: _) _ _; refine wpList_buildG (by kernel_rfl) 23 rfl _ (hbd.out _) ?_) | (guard_target =~ wpList _ _ _ ({ dst := _, op := Op.store 23 _ _, .. } :: _) _ _; refine wpList_store_row rfl 23 (.tmp 4) (.tmp 13) rfl (w.heap.size + 1) Z rfl rfl 23 Z RZ2 iZ rfl HZo.out ?_))
      refine bodyPost_ret (v := .tuple #[.agg Z, .int .i64 20]) ?_ rfl ⟨rfl, T2.setRow _ _ (fun q => by omega)⟩
      exact results_cell_row_tmp (P := Tryd.prog) Tryd.results53 _ _ (w.heap.size + 1) 23 Z (0, 0) _ rfl (setRow_heap _ _ _ _ _ _ RZ2) Tryd.underlying23 rfl iZ
    | true =>
      have he : pathE t i A.length x.length = 0 := by unfold pathE; rw [if_neg h1, hfb]; rfl
      have hp : pathH t i A x = hashOf (2 :: (numE t.toNat ++ upH t.toNat i.toNat A (hashOf (0 :: x)))) := by unfold pathH; rw [he]; rfl
      have hq := of_decide_eq_true hfb
      obtain ⟨tn, rfl⟩ : ∃ tn : Nat, t = (tn : Int) := ⟨t.toNat, by omega⟩
      obtain ⟨ix, rfl⟩ : ∃ ix : Nat, i = (ix : Int) := ⟨i.toNat, by omega⟩
      simp only [Int.toNat_natCast] at hp hq
      rw [he, hp]
      have lf := hashOf_len (0 :: x)
      have hlf := fun W (T : Turn no w W) => leaf20 W (.slice xa x.length xc) x (hb.turn_no T) (hl.turn T (fun q => q)) (by have := T.size; omega) (by omega)
      have hcl := fun W (T : Turn no w W) => climb_any tn ix A a cap (hashOf (0 :: x)) W (by omega) (by omega) (by omega) hq.2.2.2.2 (hA.turn_no T) lf (hl.turn T (fun q => q)) (by have := T.size; omega)
      have lu := upH_len tn ix A (hashOf (0 :: x)) lf
      generalize upH tn ix A (hashOf (0 :: x)) = U at *
      have hro := fun W (T : Turn no w W) => rootOf_any W tn (by omega) U lu (hl.turn T (fun q => q)) (by have := T.size; omega)
      rw [show hb32 (hashOf (2 :: (numE tn ++ U))) = hv (2 :: (numE tn ++ U)) from rfl]
      have hs := hv_size (2 :: (numE tn ++ U))
      have o1 := hv_one (2 :: (numE tn ++ U))
      have hi := hv_info (2 :: (numE tn ++ U))
      have sf := hv_size (0 :: x)
      rw [show hb32 (hashOf (0 :: x)) = hv (0 :: x) from rfl, hn'] at hcl
      rw [hn'] at hfb ⊢
      rw [hfb] at hf
      have HLF := shut hlf
      have HCL := shut hcl
      have HRO := shut hro
      generalize hv (2 :: (numE tn ++ U)) = H at *
      generalize hv (0 :: x) = LF at *
      generalize hb32 U = UA at *
      generalize hb32 z32 = Z at *
      have HM : Shut (∀ m, x.length = m → (1048576 : Int) < (m : Int) → False) := fun m e q => by omega
      obtain ⟨m, hm⟩ : ∃ m, x.length = m := ⟨_, rfl⟩
      rw [hm] at HLF h1' ⊢
      have p0 := RP.cell 0 _ rfl
      have p1 := RP.cell 1 _ rfl
      have p2 := RP.cell 2 _ rfl
      clear hA hb hb2 he hp hn' hfb hlf hcl hro hq lf lu h1 hm HM
      go_enter Tryd.func53, Tryd.ntmps53
      go_upto_region 1 with fail
      try rw [hw0]
      clear hw0 hzv
      go_upto_region 5 with (go_at_call 83; refine hf.mono ?_; clear hf; rintro e w2 ⟨rfl, t2⟩)
      have RZ2 := Row.turn RZ t2 (fun q => q)
      have RP2 := Row.turn RP t2 (fun q => q)
      have T2 := T0.then_no t2
      clear p0 p1 p2
      refine wp_region_held_drew (S := fun w' => (∃ z, Row w' (w.heap.size + 1) z 23 ∧ z.size = 32) ∧ Row w' w.heap.size #[.int .i64 tn, .int .i64 ix, .slice a n cap] 57 ∧ Turn no w w') (by kernel_rfl) ⟨⟨Z, RZ2, HZ.out⟩, RP2, T2.drew⟩ (fun hHeld => ?_)
      refine' wpAnyH_take (i := 0) (v := .pointer (some ⟨w.heap.size, 0, none⟩)) rfl (by kernel_rfl) (by kernel_rfl) (by kernel_rfl) (fun _ _ _ h => h) (Or.inl ⟨by kernel_rfl, fun W hW => ?y1⟩) hHeld ?r1
      · go_simp
      refine' wpAnyH_take (i := 1) (v := .int .i64 tn) rfl (by kernel_rfl) (by kernel_rfl) (by kernel_rfl) (fun _ _ _ h => h) (Or.inl ⟨by kernel_rfl, fun W hW => ?y2⟩) hHeld ?r2
      · have z := hW.2.1.cell 0 _ rfl
        go_simp
      refine' wpAnyH_take (i := 2) (v := .pointer (some ⟨w.heap.size, 0, none⟩)) rfl (by kernel_rfl) (by kernel_rfl) (by kernel_rfl) (fun _ _ _ h => h) (Or.inl ⟨by kernel_rfl, fun W hW => ?y3⟩) hHeld ?r3
      · go_simp
      refine' wpAnyH_take (i := 3) (v := .int .i64 tn) rfl (by kernel_rfl) (by kernel_rfl) (by kernel_rfl) (fun _ _ _ h => h) (Or.inl ⟨by kernel_rfl, fun W hW => ?y4⟩) hHeld ?r4
      · have z := hW.2.1.cell 0 _ rfl
        go_simp
      refine' wpAnyH_take (i := 4) (v := .pointer (some ⟨w.heap.size, 1, none⟩)) rfl (by kernel_rfl) (by kernel_rfl) (by kernel_rfl) (fun _ _ _ h => h) (Or.inl ⟨by kernel_rfl, fun W hW => ?y5⟩) hHeld ?r5
      · go_simp
      refine' wpAnyH_take (i := 5) (v := .int .i64 ix) rfl (by kernel_rfl) (by kernel_rfl) (by kernel_rfl) (fun _ _ _ h => h) (Or.inl ⟨by kernel_rfl, fun W hW => ?y6⟩) hHeld ?r6
      · have z := hW.2.1.cell 1 _ rfl
        go_simp
      refine' wpAnyH_take (i := 6) (v := .pointer (some ⟨w.heap.size, 2, none⟩)) rfl (by kernel_rfl) (by kernel_rfl) (by kernel_rfl) (fun _ _ _ h => h) (Or.inl ⟨by kernel_rfl, fun W hW => ?y7⟩) hHeld ?r7
      · go_simp
      refine' wpAnyH_take (i := 7) (v := .slice a n cap) rfl (by kernel_rfl) (by kernel_rfl) (by kernel_rfl) (fun _ _ _ h => h) (Or.inl ⟨by kernel_rfl, fun W hW => ?y8⟩) hHeld ?r8
      · have z := hW.2.1.cell 2 _ rfl
        go_simp
      refine' wpAnyH_take (i := 8) (v := .slice xa m xc) rfl (by kernel_rfl) (by kernel_rfl) (by kernel_rfl) (fun _ _ _ h => h) (Or.inl ⟨by kernel_rfl, fun W hW => ?y9⟩) hHeld ?r9
      · go_simp
      refine wpAnyH_ready (rs := [9]) (by kernel_rfl) (by simp) ?_
      refine AllReadyH.cons rfl (fun K hK => ?_) AllReadyH.nil
      go_simp
      refine (HLF.out _ hHeld.2.2).mono ?_
      rintro e w3 ⟨rfl, t3⟩
      refine hK.out _ _ ⟨by obtain ⟨z, hz1, hz2⟩ := hHeld.1; exact ⟨z, Row.turn hz1 t3 (fun q => q), hz2⟩, Row.turn hHeld.2.1 t3 (fun q => q), hHeld.2.2.then_no t3⟩ (fun hHeld => ?_)
      clear hK
      refine wpAnyH_ready (rs := [10]) (by kernel_rfl) (by simp) ?_
      refine AllReadyH.cons rfl (fun K hK => ?_) AllReadyH.nil
      go_simp
      refine (HCL.out _ hHeld.2.2).mono ?_
      rintro e w4 ⟨rfl, t4⟩
      refine hK.out _ _ ⟨by obtain ⟨z, hz1, hz2⟩ := hHeld.1; exact ⟨z, Row.turn hz1 t4 (fun q => q), hz2⟩, Row.turn hHeld.2.1 t4 (fun q => q), hHeld.2.2.then_no t4⟩ (fun hHeld => ?_)
      clear hK
      refine wpAnyH_ready (rs := [11]) (by kernel_rfl) (by simp) ?_
      refine AllReadyH.cons rfl (fun K hK => ?_) AllReadyH.nil
      go_simp
      refine (HRO.out _ hHeld.2.2).mono ?_
      rintro e w6 ⟨rfl, t6⟩
      refine hK.out _ _ ⟨by obtain ⟨z, hz1, hz2⟩ := hHeld.1; exact ⟨z, Row.turn hz1 t6 (fun q => q), hz2⟩, Row.turn hHeld.2.1 t6 (fun q => q), hHeld.2.2.then_no t6⟩ (fun hHeld => ?_)
      clear hK
      refine wpAnyH_ready (rs := [12]) (by kernel_rfl) (by simp) ?_
      refine AllReadyH.cons rfl (fun K hK => ?_) AllReadyH.nil
      obtain ⟨⟨z6, RZ6, hz6⟩, RP6, T6⟩ := hHeld
      rw [if_pos (by kernel_rfl)]
      refine wp_store_row 23 _ _ rfl (w.heap.size + 1) H rfl rfl 23 z6 RZ6 hi (by omega) o1 ?_
      have hz' : (w6.setRow (w.heap.size + 1) H).heap[w.heap.size + 1]? = some (.cells H 23 (0, 0)) := setRow_heap _ _ _ _ _ _ RZ6
      have T7 : Turn no w (w6.setRow (w.heap.size + 1) H) := T6.setRow _ _ (fun q => by omega)
      refine hK.out _ _ ⟨⟨H, hz', hs⟩, Row.setOther RP6 (by omega) _, T7⟩ (fun hHeld => ?_)
      clear hK
      refine' wpAnyH_take (i := 13) (v := .int .i64 0) rfl (by kernel_rfl) (by kernel_rfl) (by kernel_rfl) (fun _ _ _ h => h) (Or.inl ⟨by kernel_rfl, fun W hW => ?y10⟩) hHeld ?r10
      · go_simp
      refine wpAnyH_done (by kernel_rfl) ?_ _
      go_wp2_with fail
      refine bodyPost_ret (v := .tuple #[.agg H, .int .i64 0]) ?_ rfl ⟨rfl, T7⟩
      exact results_cell_row_tmp (P := Tryd.prog) Tryd.results53 _ _ (w.heap.size + 1) 23 H (0, 0) _ rfl hz' Tryd.underlying23 rfl hi
end Go.Proofs.YtieoomdbijpdhaaDoor

