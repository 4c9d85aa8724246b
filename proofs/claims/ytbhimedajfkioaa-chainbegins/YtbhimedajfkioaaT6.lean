/- The walk of ChainBegins. -/
import Derived.Test.YtbhimedajfkioaaT5
namespace Go.Proofs.Ytbhimedajfkioaa
open Go.RowKit
set_option linter.unusedVariables false

theorem size56 (s : ByteArray) (t : Int) (va : Value) (p : Pm) : (Try.prog.info? 56).map (·.size) = some (gnL s t va p).toArray.size := by kernel_rfl
theorem one56 (s : ByteArray) (t : Int) (a : Option Addr) (n c : Nat) (p : Pm) : (gnL s t (.slice a n c) p).toArray.all (·.oneCell') = true := by kernel_rfl
theorem gnL_set (s : ByteArray) (t : Int) (va vb : Value) (p : Pm) : (gnL s t va p).toArray.setIfInBounds 2 vb = (gnL s t vb p).toArray := rfl
theorem As.srcAny {w : World} {a : Option Addr} {n cap : Nat} {l : List Ac} (h : As w (.slice a n cap) l) (hn : n = l.length) : Src Try.prog 5 52 (.slice a n cap) n (acC l) w := by
  subst hn
  obtain ⟨x, y, e, h⟩ := h
  cases e
  cases a with
  | some q => exact h.src
  | none =>
    have h0 : l = [] := by
      cases l with
      | nil => rfl
      | cons m r =>
        obtain ⟨_, _, e, _⟩ := h.cells 0 m rfl
        cases e
    subst h0
    exact Src.ofNil _ Try.underlying52 cap
theorem src71 (W : World) : Src Try.prog 5 52 (.slice (some ⟨W.heap.size, 0, none⟩) 1 1) 1 (acL a71) (W.alloc (.cells #[.int .u64 71, .int .u64 0, .int .u64 0, .int .u64 0, .bool false] 58)) :=
  Row.src1 Try.underlying52 (Row.new W #[.int .u64 71, .int .u64 0, .int .u64 0, .int .u64 0, .bool false] 58) rfl (fun u hu => by simp at hu; rcases hu with rfl | rfl | rfl | rfl | rfl <;> rfl)

section
variable {P : Program} {ops : Array Oper} {rest : List Oper} {o : Oper} {a : Act} {w : World} {Q : Exit → Act → World → Prop}
theorem wpList_store_midN (hgd : o.guard = none) (hd : o.dst = none) (ty : TypeId) (x y : Operand) (ho : o.op = .store ty x y)
    (b off : Nat) (cells : Array Value) (hx : a.eval x = .pointer (some ⟨b, off, none⟩)) (hy : a.eval y = .agg cells)
    (ht : w.there b off cells.size) (hi : (P.info? ty).map (·.size) = some cells.size) (h1 : cells.all (·.oneCell') = true)
    (h : ∀ w', w.setCells b off cells.toList = w' → wpList P ops Q rest a w') : wpList P ops Q (o :: rest) a w :=
  wpList_store_mid hgd ty x y ho b off cells hx hy ht hi h1 (by rw [hd]; exact h _ rfl)
end
theorem size99 : (Try.prog.info? 58).map (·.size) = some (#[.int .u64 99, .int .u64 0, .int .u64 0, .int .u64 0, .bool false] : Array Value).size := by kernel_rfl
theorem one99 : (#[.int .u64 99, .int .u64 0, .int .u64 0, .int .u64 0, .bool false] : Array Value).all (·.oneCell') = true := by kernel_rfl

set_option maxRecDepth 100000 in
set_option maxHeartbeats 40000000 in
theorem begins4 (w : World) (s : ByteArray) (t : Nat) (va : Value) (p : Pm) (l : List Ac) (ha : As w va l) (hl : l.length * 40 ≤ 140737488351232) : Calls Try.prog 4 #[.agg (gnL s t va p).toArray] w fun e w' => e = .returned (.bool true) ∧ Turn no w w' := by
  obtain ⟨a, n, c, hva, hn⟩ : ∃ a n c, va = .slice a n c ∧ n = l.length := by obtain ⟨a, c, e, _⟩ := ha; exact ⟨a, _, c, e, rfl⟩
  subst hva
  have HN := shut hn
  have HL : Shut (l.length * 40 ≤ 140737488355328) := by show _ ≤ _; omega
  have hn1 : n * 40 ≤ 140737488351232 := by rw [hn]; exact hl
  have hnle : (n : Int) ≤ 9223372036854775807 := by omega
  obtain ⟨w0, hw0⟩ : ∃ w0, w.alloc (.cells (gnL s t (.slice a n c) p).toArray 56) = w0 := ⟨_, rfl⟩
  have T0 : Turn no w w0 := by rw [← hw0]; exact (Turn.refl no w).alloc _
  have S0 : w0.heap.size = w.heap.size + 1 := by rw [← hw0]; simp
  have B0 : Row w0 w.heap.size (gnL s t (.slice a n c) p).toArray 56 := by rw [← hw0]; exact Row.new w _ 56
  have HA0 := shut (ha.turn_no T0)
  have HS0 := shut S0
  have HT0 := shut T0
  have HB0 := shut B0
  have x2 : w0.cell? ⟨w.heap.size, 2, none⟩ = some (.slice a n c) := B0.cell 2 _ rfl
  have x2e : (w0.alloc (.cells #[] 58)).cell? ⟨w.heap.size, 2, none⟩ = some (.slice a n c) := ((Turn.refl no w0).alloc (.cells #[] 58)).keep x2 (fun q => q)
  have hsrc : Src Try.prog 5 52 (.slice a n c) n (acC l) (w0.alloc (.cells #[] 58)) := (HA0.out.turn_no ((Turn.refl no w0).alloc _)).srcAny hn
  have HE := shut (own_empty w0 58 5)
  have hb : (0 + n) * 40 ≤ 140737488355328 := by omega
  have hm : 0 + n ≤ maxLen := by unfold maxLen; omega
  have hb2 : (n + 1) * 40 ≤ 140737488355328 := by omega
  have hm2 : n + 1 ≤ maxLen := by unfold maxLen; omega
  clear T0 S0 B0 ha hl
  obtain ⟨C0, hC0⟩ : ∃ C0, Hid ((gnL s t (.slice a n c) p).toArray = C0) := ⟨_, rfl⟩
  have HC0 := shut (show (gnL s t (.slice a n c) p).toArray = C0 from hC0.out)
  rw [HC0.out] at hw0 HB0
  rw [HC0.out]
  have hi56 : (Try.prog.info? 56).map (·.size) = some C0.size := by rw [← HC0.out]; exact size56 _ _ _ _
  have h156 : C0.all (·.oneCell') = true := by rw [← HC0.out]; exact one56 _ _ _ _ _ _
  have hz56 : C0.size = 15 := by rw [← HC0.out]; rfl
  clear hC0 hn
  go_enter Try.func4, Try.ntmps4
  go_upto_region 1 with fail
  try rw [hw0]
  rw [show w.heap.size + 1 = w0.heap.size from HS0.out.symm] at *
  clear hw0
  go_upto_region 2 with (first | (at_builtin; (refine wpList_append_srcN rfl _ _ rfl Try.underlying52 info39 rfl (by omega) (.slice (some ⟨w0.heap.size, 0, none⟩) 0 0) 0 [] rfl HE.out (.slice a n c) n (acC l) rfl hsrc hb hm ?_; intro v1 w1 O1 G1; (obtain ⟨a1, c1, e1, _⟩ := id O1.form); (subst e1); (rw [Nat.zero_add, List.nil_append] at O1); (rw [Nat.zero_add] at G1); have HO1 := shut O1; have HG1 := shut G1; (have HT1 : Shut (Turn no w0 w1) := ((Turn.refl no w0).alloc _).trans G1.turn (fun k hk q => by cases q; exact absurd hk (Nat.lt_irrefl _))); clear hsrc O1 G1 HE hb hm x2e)) | (at_builtin; (refine wpList_append_srcN rfl _ _ rfl Try.underlying52 info39 rfl (by omega) (.slice a1 n c1) n (acC l) rfl (HO1.out.turn_no ((Turn.refl no w1).alloc _)) (.slice (some ⟨w1.heap.size, 0, none⟩) 1 1) 1 (acL a71) rfl (src71 w1) hb2 hm2 ?_; intro v2 w2 O2 G2; have HO2 := shut O2; have HG2 := shut G2; clear O2 G2 hb2 hm2)))
  have HT2 : Shut (Turn no w0 w2) := by
    have f1 := HG1.out.fresh (B := w0.heap.size) (fun g hg => by cases hg; exact Nat.le_refl _) (by simp)
    exact (HT1.out.alloc _).trans HG2.out.turn (fun k hk q => by have := f1 k q; omega)
  obtain ⟨g2, c2, hv2, hg2⟩ : ∃ g2 c2, v2 = .slice (some ⟨g2, 0, none⟩) (n + 1) c2 ∧ w0.heap.size ≤ g2 := by
    have f1 := HG1.out.fresh (B := w0.heap.size) (fun g hg => by cases hg; exact Nat.le_refl _) (by simp)
    have f2 := HG2.out.fresh (B := w0.heap.size) f1 (by have := HT1.out.size; simp; omega)
    rcases HO2.out.2 with ⟨_, q⟩ | ⟨b, cap, cur, e, _⟩
    · omega
    · exact ⟨b, cap, e, f2 b (by rw [e]; rfl)⟩
  subst hv2
  have HF2 : Shut (Fro w2 g2 0 (l ++ [a71])) := by
    have h : OwnN w2 58 5 (.slice (some ⟨g2, 0, none⟩) (n + 1) c2) (n + 1) (acC (l ++ [a71])) := by
      have h := HO2.out
      rw [acC_snoc] at h
      exact h
    exact h.fro (by simp [HN.out]) (by omega)
  have HC2 : Shut (n + 1 ≤ c2) := by
    obtain ⟨a, cap, e, _, _, h, _⟩ := HO2.out.form
    cases e
    exact h
  have HGE := shut hg2
  have x2 := HT2.out.keep x2 (fun q => q)
  have B2 := HB0.out.turn HT2.out (fun q => q)
  have HAl : Shut (As w2 (.slice (some ⟨g2, 0, none⟩) n c2) l) := by
    have h : OwnN w2 58 5 (.slice (some ⟨g2, 0, none⟩) (n + 1) c2) (l ++ [a71]).length (acC (l ++ [a71])) := by
      have h := HO2.out
      rw [acC_snoc] at h
      have e : (l ++ [a71]).length = n + 1 := by simp [HN.out]
      rw [e]
      exact h
    have HH := h.as (fun m hm => (List.mem_append.1 hm).elim (HA0.out.oks m) (fun q => by rw [List.mem_singleton.1 q]; simp [Ac.ok, a71]))
    obtain ⟨x, y, e, h⟩ := HH
    obtain ⟨e1, _, e3⟩ := Value.slice.inj e
    subst e1 e3
    refine ⟨_, c2, by rw [HN.out], by have := h.le; simp at this; omega, h.cap, HA0.out.oks, fun j m hj => h.cells j m ?_⟩
    rw [List.getElem?_append_left (List.getElem?_eq_some_iff.1 hj).1]
    exact hj
  clear HO1 HG1 HO2 HG2 hg2
  go_upto_region 3 with fail
  go_upto_region 4 with (first | (refine wpList_load_row rfl 56 (.tmp 1) rfl w.heap.size rfl 56 C0 _ _ B2 Try.underlying56 rfl hi56 ?_) | (refine wpList_store_anyN rfl rfl 56 (.tmp 5) (.tmp 22) rfl w2.heap.size C0 rfl rfl 56 _ (Row.new w2 _ 56) hi56 hz56.symm h156 ?_; intro w3 R3 T3; have HR3 := shut R3; have HT3 : Shut (Turn no w2 w3) := ((Turn.refl no w2).alloc _).trans T3 (fun k hk q => by have h : k = w2.heap.size := q; omega); clear R3 T3))
  have hnc : n ≤ c2 := by have := HC2.out; omega
  have hc2 : C0[2]? = some (.slice a n c) := by rw [← HC0.out]; rfl
  have y2 : w3.cell? ⟨w2.heap.size, 2, none⟩ = some (.slice a n c) := HR3.out.cell 2 _ hc2
  have fz : w3.frozen? ⟨w2.heap.size, 2, none⟩ = false := frozen_of_row _ _ _ _ 56 HR3.out
  clear x2 B2 hc2
  go_upto_region 5 with fail
  obtain ⟨w4, hw4⟩ : ∃ w4, w3.setCell ⟨w2.heap.size, 2, none⟩ (.slice (some ⟨g2, 0, none⟩) n c2) = w4 := ⟨_, rfl⟩
  have HR4 : Shut (Row w4 w2.heap.size (gnL s t (.slice (some ⟨g2, 0, none⟩) n c2) p).toArray 56) := by
    have h := heap_setCell_same w3 w2.heap.size 2 _ 56 (.slice (some ⟨g2, 0, none⟩) n c2) HR3.out
    rw [← HC0.out, gnL_set, hw4] at h
    exact h
  have HT24 : Shut (Turn no w2 w4) := by
    rw [← hw4]
    exact HT3.out.trans ((Turn.refl (fun k => k = w2.heap.size) w3).setCell (p := ⟨w2.heap.size, 2, none⟩) (fun _ => rfl) _) (fun k hk q => by have h : k = w2.heap.size := q; exact absurd hk (by omega))
  rw [hw4]
  clear hw4 y2 fz HR3 HT3
  have HLT : Shut (g2 < w2.heap.size) := by obtain ⟨cur, R, _⟩ := HF2.out; exact R.lt
  have c13 := begin13 w4 s t (.slice (some ⟨g2, 0, none⟩) n c2) p l (HAl.out.turn_no HT24.out) HL.out
  obtain ⟨C1, hC1⟩ : ∃ C1, (gnL s t (.slice (some ⟨g2, 0, none⟩) n c2) p).toArray = C1 := ⟨_, rfl⟩
  have hi56' : (Try.prog.info? 56).map (·.size) = some C1.size := by rw [← hC1]; exact size56 _ _ _ _
  rw [hC1] at HR4 c13
  clear hC1
  have R4 := HR4.out
  go_upto_region 6 with (first | (refine wpList_load_row rfl 56 (.tmp 5) rfl w2.heap.size rfl 56 C1 _ _ R4 Try.underlying56 rfl hi56' ?_) | (go_at_call 13; refine c13.mono ?_; rintro e w5 ⟨hB5, t5⟩; (obtain ⟨X, E, rfl, hX, hXi, hX1⟩ := hB5.shape); have HB5 := shut hB5; have HT45 := shut t5; clear c13 hB5 t5 R4) | (refine wpList_store_anyN rfl rfl 65 (.tmp 6) (.tmp 30) rfl w5.heap.size X rfl rfl 65 _ (Row.new w5 _ 65) hXi (by rw [hX]; rfl) hX1 ?_; intro w6 R6 T6; have HR6 := shut R6; have HT56 : Shut (Turn no w5 w6) := ((Turn.refl no w5).alloc _).trans T6 (fun k hk q => by have h : k = w5.heap.size := q; exact absurd hk (by omega)); clear R6 T6))
  have HT26 := shut (HT24.out.then_no (HT45.out.then_no HT56.out))
  have B6 := HB0.out.turn (HT2.out.then_no HT26.out) (fun q => q)
  have c14 := begin14 w6 s t (.slice a n c) p l (HA0.out.turn_no (HT2.out.then_no HT26.out)) HL.out
  rw [HC0.out] at c14
  go_upto_region 7 with (first | (refine wpList_load_row rfl 56 (.tmp 1) rfl w.heap.size rfl 56 C0 _ _ B6 Try.underlying56 rfl hi56 ?_) | (go_at_call 14; refine c14.mono ?_; rintro e w7 ⟨hB7, t7⟩; (obtain ⟨Y, F, rfl, hY, hYi, hY1⟩ := hB7.shape); have HB7 := shut hB7; have HT67 := shut t7; clear c14 hB7 t7 B6) | (refine wpList_store_anyN rfl rfl 65 (.tmp 8) (.tmp 35) rfl w7.heap.size Y rfl rfl 65 _ (Row.new w7 _ 65) hYi (by rw [hY]; rfl) hY1 ?_; intro w8 R8 T8; have HR8 := shut R8; have HT78 : Shut (Turn no w7 w8) := ((Turn.refl no w7).alloc _).trans T8 (fun k hk q => by have h : k = w7.heap.size := q; exact absurd hk (by omega)); clear R8 T8))
  have HT68 := shut (HT67.out.then_no HT78.out)
  have HT28 := shut (HT26.out.then_no HT68.out)
  have HF8 := shut (HF2.out.turn HT28.out (fun q => q))
  have hlast : (l ++ [a71])[n]? = some a71 := by rw [HN.out]; simp
  obtain ⟨z0, z1, z2, z3, z4⟩ := HF8.out.cells (Nat.zero_le n) hlast
  simp only [a71] at z0 z1 z2 z3 z4
  have hnn : (n : Int) < (n : Int) + 1 := by omega
  have hn2 : (n : Int) + 1 ≤ 9223372036854775807 := by omega
  clear hlast
  go_upto_region 8 with fail
  clear z0 z1 z2 z3 z4
  go_wp2_with fail
  go_loopw [10, 11] (fun o c wr => ∃ i : Nat, i ≤ n ∧ o = .bool true ∧ c = .int .i64 i ∧ Shut (Fro wr g2 i (l ++ [a71])) ∧ Shut (Turn (fun k => k = g2) w8 wr)) (fun _ c _ => n - (intOf c).toNat)
  case atStart => exact ⟨0, Nat.zero_le _, rfl, rfl, HF8, Turn.refl _ _⟩
  case round =>
    obtain ⟨i, hi, rfl, rfl, HF, HT⟩ := hrel
    have HT0r : Shut (Turn (fun k => k = g2) w0 wr) := ((HT2.out.then_no HT28.out).mono (S' := fun k => k = g2) (fun _ _ q => absurd q (fun q => q))).trans HT.out (fun _ _ q => q)
    have hne : w.heap.size < g2 := by have := HGE.out; have := HB0.out.lt; omega
    have HNE := shut hne
    have hx2 : C0[2]? = some (.slice a n c) := by rw [← HC0.out]; rfl
    by_cases hlt : i < n
    · obtain ⟨m, hm⟩ : ∃ m, l[i]? = some m := ⟨l[i]'(by rw [← HN.out]; exact hlt), List.getElem?_eq_getElem _⟩
      have hm2 : (l ++ [a71])[i]? = some m := by rw [List.getElem?_append_left (by rw [← HN.out]; exact hlt)]; exact hm
      obtain ⟨d0, d1, d2, d3, d4⟩ := HF.out.cells (Nat.le_refl i) hm2
      have HAr : As wr (.slice a n c) l := HA0.out.turn_ge HT0r.out (fun k q => by have h : k = g2 := q; rw [h]; exact HGE.out)
      obtain ⟨bb, off, e, c0, c1, c2', c3, c4⟩ := HAr.cells i m hm
      subst e
      have x2 : wr.cell? ⟨w.heap.size, 2, none⟩ = some (.slice (some ⟨bb, off, none⟩) n c) := HT0r.out.keep (HB0.out.cell 2 _ hx2) (fun q => by have h : w.heap.size = g2 := q; omega)
      have hlt' : (i : Int) < (n : Int) := by omega
      have hlt2 : (i : Int) < (n : Int) + 1 := by omega
      clear hm hm2 HAr hx2 hne
      go_wp2_with fail
      go_quiet (fail)
      go_upto_region 12 with fail
      have HTd : Shut (Turn (fun k => k = g2) w8 (wr.drewN nq)) := HT.out.drewN nq
      have HFd := shut (HF.out.turn ((Turn.refl no wr).drewN nq) (fun q => q))
      have hth : (wr.drewN nq).there g2 (i * 5) 5 := HFd.out.there (by simp [← HN.out]; omega)
      revert HTd HFd hth
      generalize wr.drewN nq = wd
      intro HTd HFd hth
      go_wp2_with (first | (refine wpList_store_midN rfl rfl 58 (.tmp 64) (.tmp 63) rfl g2 (i * 5) #[.int .u64 99, .int .u64 0, .int .u64 0, .int .u64 0, .bool false] rfl rfl hth size99 one99 ?_; intro we hwe; have HFe : Shut (Fro we g2 (i + 1) (l ++ [a71])) := (by rw [← hwe]; exact HFd.out.write _ _ _ _ _); have HTe : Shut (Turn (fun k => k = g2) w8 we) := (by rw [← hwe]; exact HTd.out.trans (Turn.setCells g2 _ _ wd) (fun _ _ q => q)); clear hwe))
      go_roundw
      case rel => exact ⟨i + 1, by omega, rfl, by go_num, HFe, HTe⟩
      case measure => simp [intOf]; omega
    · have hin : i = n := by omega
      subst hin
      have hlt' : ¬ (i : Int) < (i : Int) := by omega
      obtain ⟨hEF, s', p', t', L, N, l', k, hX', hY'⟩ := Began.two HB5.out HB7.out
      subst hEF
      have RX := ((HR6.out.turn HT68.out (fun q => q)).turn HT.out (fun q => by have h : w5.heap.size = g2 := q; have h1 := HLT.out; have h2 := HT24.out.size; have h3 := HT45.out.size; omega))
      have RY := (HR8.out.turn HT.out (fun q => by have h : w7.heap.size = g2 := q; have h1 := HLT.out; have h2 := HT26.out.size; have h3 := HT67.out.size; omega))
      have C15 : Shut (∀ W, Turn no wr W → Calls Try.prog 15 #[.agg X, .agg Y] W fun e W' => e = .returned (.bool true) ∧ Turn no W W') := fun W q =>
        two15 hX' hY' ((((HT56.out.then_no HT68.out).mono (S' := fun k => k < w4.heap.size) (fun _ _ q => absurd q (fun q => q))).trans HT.out (fun k _ q => by have h : k = g2 := q; have h1 := HLT.out; have h2 := HT24.out.size; show k < w4.heap.size; omega)).trans q (fun _ _ q => absurd q (fun q => q)))
          ((((HT78.out).mono (S' := fun k => k < w6.heap.size) (fun _ _ q => absurd q (fun q => q))).trans HT.out (fun k _ q => by have h : k = g2 := q; have h1 := HLT.out; have h2 := HT26.out.size; show k < w6.heap.size; omega)).trans q (fun _ _ q => absurd q (fun q => q)))
      have HRX : Shut (∀ W, Turn no wr W → W.rangeAt w5.heap.size 0 X.toList ∧ W.rangeAt w7.heap.size 0 Y.toList) := fun W q =>
        ⟨fun j x hx => (RX.turn q (fun q => q)).cell (0 + j) _ (by rw [Nat.zero_add]; simpa using hx), fun j x hx => (RY.turn q (fun q => q)).cell (0 + j) _ (by rw [Nat.zero_add]; simpa using hx)⟩
      have hXi' : (Try.prog.info? 65).map (·.size) = some X.toList.length := by rw [hXi]; simp
      have hYi' : (Try.prog.info? 65).map (·.size) = some Y.toList.length := by rw [hYi]; simp
      have HTw : Shut (Turn no w wr) := HT0.out.trans HT0r.out (fun k hk q => by have h : k = g2 := q; have := HNE.out; omega)
      have C15' : Shut (∀ W, Turn no wr W → Calls Try.prog 15 #[.agg X.toList.toArray, .agg Y.toList.toArray] W fun e W' => e = .returned (.bool true) ∧ Turn no W W') := fun W q => by
        have h := C15.out W q
        rw [Array.toArray_toList, Array.toArray_toList]
        exact h
      clear RX RY hx2 hne C15 hX' hY' hXi hYi
      revert HRX hXi' hYi' C15'
      generalize X.toList = lX, Y.toList = lY
      intro HRX hXi' hYi' C15'
      have HZ : Shut True := trivial
      go_upto_region 13 with fail
      go_wp2_with (first | (go_at_call 9; clear HZ; refine (num9 _ _).mono ?_; rintro e wa ⟨rfl, ta⟩; have HTa := shut ta; clear ta) | (go_at_call 9; refine (num9 _ _).mono ?_; rintro e wb ⟨rfl, tb⟩; have HTb := shut (HTa.out.then_no tb); (obtain ⟨xr, yr⟩ := HRX.out wb HTb.out); clear tb) | (refine wpList_load_midG (by rfl) 65 (.tmp 6) rfl w5.heap.size 0 rfl lX _ xr Try.underlying65 rfl hXi' ?_) | (refine wpList_load_midG (by rfl) 65 (.tmp 8) rfl w7.heap.size 0 rfl lY _ yr Try.underlying65 rfl hYi' ?_) | (go_at_call 15; refine (C15'.out wb HTb.out).mono ?_; rintro e wc ⟨rfl, tc⟩; have HTc := shut (HTb.out.then_no tc); clear tc))
      go_ret
      exact ⟨rfl, HTw.out.then_no HTc.out⟩
end Go.Proofs.Ytbhimedajfkioaa
