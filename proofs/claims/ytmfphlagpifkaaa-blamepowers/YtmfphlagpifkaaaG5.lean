/- copied. -/
import Derived.Test.YtmfphlagpifkaaaG4
namespace Go.Proofs.Ytmfphlagpifkaaa
open Go.RowKit
set_option linter.unusedVariables false

theorem size35 : (Try.prog.info? 35).map (·.size) = some 75 := by kernel_rfl
/-- A case with a list of members in it, and nothing else. -/
def caseL (v : Value) : List Value := .string ByteArray.empty :: .string ByteArray.empty :: v :: (.int .u64 0 :: .int .i64 0 :: (z32.map bv ++ .slice none 0 0 :: (.int .u64 0 :: .int .i64 0 :: (z32.map bv ++ [.slice none 0 0, .slice none 0 0, .slice none 0 0]))))
def zC : Array Value := (caseL (.slice none 0 0)).toArray
theorem zero35v (w : World) : (zeroValue 35).run Try.prog w = .ok (.agg zC) w := by kernel_rfl
theorem zero35 : zC.size = 75 := by kernel_rfl
/-- What is laid behind a list. -/
def mk71 : Mk := ⟨-71, 0, fun _ => 0⟩
def mb71 : Mb := ⟨71, 0, 0⟩
theorem mb71_ok : mb71.ok := by simp [mb71, Mb.ok]
def mb71A : Array Value := #[.int .u64 71, .int .u64 0, .int .i64 0]
theorem mb71_one : ∀ u ∈ mb71A.toList, u.oneCell' = true := flat_one [mb71]
theorem vt71_one : ∀ u ∈ vt71.cs.toArray.toList, u.oneCell' = true := by
  rw [List.toList_toArray]
  exact vt71.one
theorem set_one {C : Array Value} {j : Nat} {u : Value} (h : C.all (·.oneCell') = true) (hu : u.oneCell' = true) : (C.setIfInBounds j u).all (·.oneCell') = true := by
  rw [Array.all_eq_true] at h ⊢
  intro i hi
  rw [Array.size_setIfInBounds] at hi
  rw [Array.getElem_setIfInBounds hi]
  split
  · exact hu
  · exact h i hi
section
variable {P : Program} {ops : Array Oper} {rest : List Oper} {o : Oper} {a : Act} {w : World} {Q : Exit → Act → World → Prop}
theorem wpList_store_anyN (hgd : o.guard = none) (hd : o.dst = none) (ty : TypeId) (x y : Operand) (ho : o.op = .store ty x y)
    (g : Nat) (cells : Array Value) (hx : a.eval x = .pointer (some ⟨g, 0, none⟩)) (hy : a.eval y = .agg cells)
    (t : TypeId) (old : Array Value) (hg : Row w g old t) (hi : (P.info? ty).map (·.size) = some cells.size)
    (hold : old.size = cells.size) (h1 : cells.all (·.oneCell') = true)
    (h : ∀ w', Row w' g cells t → Turn (fun k => k = g) w w' → wpList P ops Q rest a w') : wpList P ops Q (o :: rest) a w :=
  wpList_store_any hgd ty x y ho g cells hx hy t old hg hi hold h1 (fun w' r t => by rw [hd]; exact h w' r t)
end
/-- Behind an empty list lies one. -/
structure Beh (w : World) (g c : Nat) (X : List Value) : Prop where
  one : 1 ≤ c
  cap : c ≤ maxLen
  at0 : w.rangeAt g 0 X
theorem Beh.turn {S : Nat → Prop} {w w' : World} {g c : Nat} {X : List Value} (h : Beh w g c X) (t : Turn S w w') (hn : ¬ S g) : Beh w' g c X := ⟨h.one, h.cap, fun i v hi => t.keep (h.at0 i v hi) hn⟩
theorem OwnN.beh {w : World} {e : TypeId} {sz g c : Nat} {X : List Value} (h : OwnN w e sz (.slice (some ⟨g, 0, none⟩) (0 + 1) c) (0 + 1) ([] ++ X)) : Beh w g c X := by
  obtain ⟨a, cap, e1, h0, h1, h2, h3⟩ := h.form
  cases e1
  refine ⟨by omega, h3, fun i v hi => ?_⟩
  have := World.ownsRow.cells h (g := g) rfl i v hi
  simpa [Addr.add_lit] using this
theorem own_end {w2 : World} {g2 c2 n g3 : Nat} {l : List Mb} (hO : OwnN w2 49 3 (.slice (some ⟨g2, 0, none⟩) (n + 1) c2) (n + 1) (flat l ++ mb71A.toList)) (hn : l.length = n) (hok : ∀ m ∈ l, m.ok) (hne : ¬ g2 = g3) (j : Nat) (u : Value) : MsAt (w2.setCell ⟨g3, j, none⟩ u) (some ⟨g2, 0, none⟩) c2 (l ++ [mb71]) := by
  have e : flat l ++ mb71A.toList = flat (l ++ [mb71]) := by rw [flat_append]; rfl
  rw [e] at hO
  obtain ⟨g, c, e1, k⟩ := hO.msAt (by simp [hn]) (by omega) (fun m hm => (List.mem_append.1 hm).elim (hok m) (fun q => by rw [List.mem_singleton.1 q]; exact mb71_ok))
  cases e1
  exact k.turn ((Turn.refl (fun k => k = g3) w2).setCell (p := ⟨g3, j, none⟩) (fun _ => rfl) u) (fun x q => by cases q; exact hne)
theorem beh_end {w2 : World} {e : TypeId} {sz g2 c2 g3 : Nat} {X : List Value} (hO : OwnN w2 e sz (.slice (some ⟨g2, 0, none⟩) (0 + 1) c2) (0 + 1) ([] ++ X)) (hne : ¬ g2 = g3) (j : Nat) (u : Value) : Beh (w2.setCell ⟨g3, j, none⟩ u) g2 c2 X :=
  hO.beh.turn ((Turn.refl (fun k => k = g3) w2).setCell (p := ⟨g3, j, none⟩) (fun _ => rfl) u) hne

set_option maxRecDepth 100000 in
set_option maxHeartbeats 40000000 in
theorem copied4 (w : World) (B : Array Value) (hB : B.size = 75) (a : Option Addr) (cp : Nat) (l : List Mb) (h1 : B[2]? = some (.slice a l.length cp)) (h2 : B[37]? = some (.slice none 0 0)) (h3 : B[72]? = some (.slice none 0 0)) (h4 : B[73]? = some (.slice none 0 0)) (hone : B.all (·.oneCell') = true) (hk : MsAt w a cp l) (hb : l.length * 24 ≤ 140737488351232) :
    Calls Try.prog 4 #[.agg B] w fun e w' => ∃ g c ga ca gb cb gv cv, e = .returned (.agg ((((B.setIfInBounds 2 (.slice (some ⟨g, 0, none⟩) l.length c)).setIfInBounds 37 (.slice (some ⟨ga, 0, none⟩) 0 ca)).setIfInBounds 72 (.slice (some ⟨gb, 0, none⟩) 0 cb)).setIfInBounds 73 (.slice (some ⟨gv, 0, none⟩) 0 cv))) ∧ MsAt w' (some ⟨g, 0, none⟩) c (l ++ [mb71]) ∧ Beh w' ga ca (mkL mk71) ∧ Beh w' gb cb (mkL mk71) ∧ Beh w' gv cv vt71.cs ∧ Turn no w w' := by
  obtain ⟨ZC, hZC, hzv⟩ : ∃ ZC : Array Value, ZC.size = 75 ∧ ∀ W, (zeroValue 35).run Try.prog W = .ok (.agg ZC) W := ⟨zC, zero35, zero35v⟩
  have hi35 : (Try.prog.info? 35).map (·.size) = some B.size := by rw [hB]; exact size35
  obtain ⟨w0, hw0⟩ : ∃ w0, (w.alloc (.cells B 35)).alloc (.cells ZC 35) = w0 := ⟨_, rfl⟩
  have T0 : Turn no w w0 := by rw [← hw0]; exact ((Turn.refl no w).alloc _).alloc _
  have R0 : Row w0 w.heap.size B 35 := by rw [← hw0]; exact (Row.new w _ 35).alloc _
  have Z0 : Row w0 (w.heap.size + 1) ZC 35 := by rw [← hw0]; exact Row.newAt _ _ _ _ (by simp)
  have TA : Turn no w0 (w0.alloc (.cells ZC 35)) := (Turn.refl no w0).alloc _
  have RN := Row.new w0 ZC 35
  have HZB : Shut (ZC.size = B.size) := by show _ = _; rw [hB]; exact hZC
  have HS0 : Shut (w0.heap.size = w.heap.size + 2) := by show _ = _; rw [← hw0]; simp
  have HB := shut hB
  have HI35 := shut hi35
  have HONE := shut hone
  obtain ⟨n, hn⟩ : ∃ n, Hid (l.length = n) := ⟨_, rfl⟩
  have hn' := hn.out
  rw [hn'] at h1 hb ⊢
  have HB1 := shut h1
  have HB2 := shut h2
  have HB3 := shut h3
  have HB4 := shut h4
  have HKS := shut hk
  have HBN : Shut ((n + 1) * 24 ≤ 140737488355328) := by show _ ≤ _; omega
  have HMN : Shut (n + 1 ≤ maxLen) := by show _ ≤ _; simp only [maxLen]; omega
  have HOKS := shut hk.ok
  have HZC := shut hZC
  clear h1 h2 h3 h4 hone hB hk hb hn' hZC
  go_enter Try.func4, Try.ntmps4
  go_upto_region 1 with fail
  try rw [hw0]
  go_upto_region 2 with (first | (refine wpList_load_row rfl 35 (.tmp 1) rfl w.heap.size rfl 35 B _ _ R0 Try.underlying35 rfl hi35 ?_) | (refine wpList_store_anyN rfl rfl 35 (.tmp 3) (.tmp 4) rfl w0.heap.size B rfl rfl 35 ZC RN hi35 HZB.out HONE.out ?_; intro w1 R1 T1))
  have HK : Shut (∀ W, Turn (fun k => k = w0.heap.size) w1 W → Row W w.heap.size B 35 ∧ Row W (w.heap.size + 1) ZC 35 ∧ Turn no w W) := fun W t => by
    have s := HS0.out
    have tt : Turn (fun k => k = w0.heap.size) w0 W := TA.of_no.trans (T1.trans t (fun _ _ e => e)) (fun _ _ e => e)
    exact ⟨R0.turn tt (fun e => by omega), Z0.turn tt (fun e => by omega), T0.of_no.trans tt (fun i hi e => by have := T0.size; omega)⟩
  have HSRC : Shut (∀ W, Turn no w1 W → Src Try.prog 3 22 (.slice a n cp) n (flat l) W) := fun W t => by
    have := (HKS.out.turn_no ((HK.out w1 (Turn.refl _ w1)).2.2.then_no t)).src
    rw [hn.out] at this
    exact this
  have HR1 := shut R1
  have HG1 : Shut (w.heap.size + 1 < w0.heap.size ∧ w0.heap.size < w1.heap.size) := ⟨by have := HS0.out; omega, R1.lt⟩
  clear R0 Z0 RN TA T1 T0 R1 hi35 hw0 HKS hzv
  generalize hg3 : w0.heap.size = g3 at *
  clear hg3
  go_cut [3] from 5 to 62 (fun c3 wx => c3 = .pointer (some ⟨g3, 0, none⟩) ∧ ∃ g c, Shut (MsAt wx (some ⟨g, 0, none⟩) c (l ++ [mb71]) ∧ g3 < g ∧ Turn (fun k => k = g3) w1 wx ∧ Row wx g3 (B.setIfInBounds 2 (.slice (some ⟨g, 0, none⟩) n c)) 35))
  case first =>
    have HAA := shut (app_a Try.underlying22 info49 rfl (by decide) w1 (vs := .slice a n cp) (n := n) (news := flat l) HSRC.out (X := mb71A) rfl mb71_one HBN.out HMN.out)
    have HAB := shut (app_b Try.underlying22 info49 rfl (by decide) w1 (vs := .slice a n cp) (n := n) (news := flat l) HSRC.out (X := mb71A) rfl mb71_one HBN.out HMN.out)
    have HAC := shut (app_c Try.underlying22 info49 rfl (by decide) w1 (vs := .slice a n cp) (n := n) (news := flat l) HSRC.out (X := mb71A) rfl mb71_one HBN.out HMN.out)
    refine wp_region_held_drew (S := fun W => Turn (fun k => k = g3) w1 W) (by kernel_rfl) (Turn.refl _ w1).drew (fun hHeld => ?_)
    refine' wpAnyH_take (i := 1) (v := .pointer (some ⟨w.heap.size, 2, none⟩)) rfl (by kernel_rfl) (by kernel_rfl) (by kernel_rfl) (fun _ _ _ h => h) (Or.inl ⟨by kernel_rfl, fun W hW => ?y1⟩) hHeld ?r1
    · go_simp
    refine' wpAnyH_take (i := 2) (v := .pointer (some ⟨w.heap.size, 2, none⟩)) rfl (by kernel_rfl) (by kernel_rfl) (by kernel_rfl) (fun _ _ _ h => h) (Or.inl ⟨by kernel_rfl, fun W hW => ?y2⟩) hHeld ?r2
    · go_simp
    refine' wpAnyH_take (i := 3) (v := .slice a n cp) rfl (by kernel_rfl) (by kernel_rfl) (by kernel_rfl) (fun _ _ _ h => h) (Or.inl ⟨by kernel_rfl, fun W hW => ?y3⟩) hHeld ?r3
    · have z := (HK.out W hW).1.cell 2 _ HB1.out
      go_simp
    refine' wpAnyH_take (i := 5) (v := .agg mb71A) rfl (by kernel_rfl) (by kernel_rfl) (by kernel_rfl) (fun _ _ _ h => h) (Or.inl ⟨by kernel_rfl, fun W hW => ?y4⟩) hHeld ?r4
    · go_simp
      rfl
    refine' wpAnyH_take (i := 8) (v := .pointer (some ⟨w.heap.size, 2, none⟩)) rfl (by kernel_rfl) (by kernel_rfl) (by kernel_rfl) (fun _ _ _ h => h) (Or.inl ⟨by kernel_rfl, fun W hW => ?y5⟩) hHeld ?r5
    · go_simp
    refine' wpAnyH_take (i := 9) (v := .pointer (some ⟨w.heap.size, 2, none⟩)) rfl (by kernel_rfl) (by kernel_rfl) (by kernel_rfl) (fun _ _ _ h => h) (Or.inl ⟨by kernel_rfl, fun W hW => ?y6⟩) hHeld ?r6
    · go_simp
    refine' wpAnyH_take (i := 10) (v := .slice a n cp) rfl (by kernel_rfl) (by kernel_rfl) (by kernel_rfl) (fun _ _ _ h => h) (Or.inl ⟨by kernel_rfl, fun W hW => ?y7⟩) hHeld ?r7
    · have z := (HK.out W hW).1.cell 2 _ HB1.out
      go_simp
    refine' wpAnyH_take (i := 11) (v := .int .i64 n) rfl (by kernel_rfl) (by kernel_rfl) (by kernel_rfl) (fun _ _ _ h => h) (Or.inl ⟨by kernel_rfl, fun W hW => ?y8⟩) hHeld ?r8
    · go_simp
    refine wpAnyH_ready (rs := [0, 6]) (by kernel_rfl) (by simp) ?_
    refine AllReadyH.cons rfl (fun K hK => ?_) (AllReadyH.cons rfl (fun K hK => ?_) AllReadyH.nil)
    · go_simp
      refine hK.out _ _ ((Turn.refl no w1).drew.alloc (.cells #[] 49)).of_no (fun hHeld => ?_)
      clear hK
      refine wpAnyH_ready (rs := [4, 6]) (by kernel_rfl) (by simp) ?_
      refine AllReadyH.cons rfl (fun K hK => ?_) (AllReadyH.cons rfl (fun K hK => ?_) AllReadyH.nil)
      · obtain ⟨v1, w1a, v2, w2, r1, hT1, r2, hTX, hT2, hO, g2, c2, rfl, hc2, hg2⟩ := HAA.out
        clear HAA HAB HAC
        have HO := shut hO
        clear hO
        rw [if_pos (by kernel_rfl)]
        refine wp_append_run _ _ rfl _ _ rfl rfl r1 ?_
        refine hK.out _ _ hT1.of_no (fun hHeld => ?_)
        clear hK r1
        refine wpAnyH_ready (rs := [6]) (by kernel_rfl) (by simp) ?_
        refine AllReadyH.cons rfl (fun K hK => ?_) AllReadyH.nil
        go_simp
        refine hK.out _ _ (hTX.of_no) (fun hHeld => ?_)
        clear hK
        refine wpAnyH_ready (rs := [7]) (by kernel_rfl) (by simp) ?_
        refine AllReadyH.cons rfl (fun K hK => ?_) AllReadyH.nil
        rw [if_pos (by kernel_rfl)]
        refine wp_append_run _ _ rfl _ _ rfl rfl r2 ?_
        refine hK.out _ _ (hT2.of_no) (fun hHeld => ?_)
        clear hK
        have zc := ((HR1.out).turn hT2 (fun q => q)).cell 2 _ HB1.out
        have zf := ((HR1.out).turn hT2 (fun q => q)).frozen 2
        refine' wpAnyH_take (i := 12) (v := .slice (some ⟨g2, 0, none⟩) n c2) rfl (by kernel_rfl) (by kernel_rfl) (by kernel_rfl) (fun _ _ _ h => h) (Or.inl ⟨by kernel_rfl, fun W hW => ?y9⟩) hHeld ?r9
        · have hcc : ¬ c2 < n := by omega
          go_simp
        refine' wpAnyH_take (i := 13) (v := .pointer (some ⟨g3, 2, none⟩)) rfl (by kernel_rfl) (by kernel_rfl) (by kernel_rfl) (fun _ _ _ h => h) (Or.inl ⟨by kernel_rfl, fun W hW => ?y10⟩) hHeld ?r10
        · go_simp
        refine' wpAnyH_take (i := 14) (v := .pointer (some ⟨g3, 2, none⟩)) rfl (by kernel_rfl) (by kernel_rfl) (by kernel_rfl) (fun _ _ _ h => h) (Or.inl ⟨by kernel_rfl, fun W hW => ?y11⟩) hHeld ?r11
        · go_simp
        refine wpAnyH_ready (rs := [15]) (by kernel_rfl) (by simp) ?_
        refine AllReadyH.cons rfl (fun K hK => ?_) AllReadyH.nil
        go_simp
        have TS : Turn (fun k => k = g3) w1 (w2.setCell ⟨g3, 2, none⟩ (.slice (some ⟨g2, 0, none⟩) n c2)) := (hT2.of_no (S := fun k => k = g3)).setCell (p := ⟨g3, 2, none⟩) (fun _ => rfl) _
        refine hK.out _ _ TS (fun hHeld => ?_)
        clear hK
        refine wpAnyH_done (by kernel_rfl) ?_ _
        go_simp
        go_wp2_with fail
        go_meet
        case rel => exact ⟨rfl, g2, c2, own_end HO.out hn.out HOKS.out (by have := HG1.out; omega) 2 _, by have := HG1.out; omega, TS, (HR1.out.turn hT2 (fun q => q)).set 2 _⟩
      · obtain ⟨v1, w1a, v2, w2, r1, hT1, r2, hT2, hO, g2, c2, rfl, hc2, hg2⟩ := HAB.out
        clear HAA HAB HAC
        have HO := shut hO
        clear hO
        go_simp
        refine hK.out _ _ (((Turn.refl no w1).drew.alloc (.cells #[] 49)).alloc (.cells mb71A 49)).of_no (fun hHeld => ?_)
        clear hK
        refine wpAnyH_ready (rs := [4]) (by kernel_rfl) (by simp) ?_
        refine AllReadyH.cons rfl (fun K hK => ?_) AllReadyH.nil
        rw [if_pos (by kernel_rfl)]
        refine wp_append_run _ _ rfl _ _ rfl rfl r1 ?_
        refine hK.out _ _ (hT1.of_no) (fun hHeld => ?_)
        clear hK
        refine wpAnyH_ready (rs := [7]) (by kernel_rfl) (by simp) ?_
        refine AllReadyH.cons rfl (fun K hK => ?_) AllReadyH.nil
        rw [if_pos (by kernel_rfl)]
        refine wp_append_run _ _ rfl _ _ rfl rfl r2 ?_
        refine hK.out _ _ (hT2.of_no) (fun hHeld => ?_)
        clear hK
        have zc := ((HR1.out).turn hT2 (fun q => q)).cell 2 _ HB1.out
        have zf := ((HR1.out).turn hT2 (fun q => q)).frozen 2
        refine' wpAnyH_take (i := 12) (v := .slice (some ⟨g2, 0, none⟩) n c2) rfl (by kernel_rfl) (by kernel_rfl) (by kernel_rfl) (fun _ _ _ h => h) (Or.inl ⟨by kernel_rfl, fun W hW => ?y12⟩) hHeld ?r12
        · have hcc : ¬ c2 < n := by omega
          go_simp
        refine' wpAnyH_take (i := 13) (v := .pointer (some ⟨g3, 2, none⟩)) rfl (by kernel_rfl) (by kernel_rfl) (by kernel_rfl) (fun _ _ _ h => h) (Or.inl ⟨by kernel_rfl, fun W hW => ?y13⟩) hHeld ?r13
        · go_simp
        refine' wpAnyH_take (i := 14) (v := .pointer (some ⟨g3, 2, none⟩)) rfl (by kernel_rfl) (by kernel_rfl) (by kernel_rfl) (fun _ _ _ h => h) (Or.inl ⟨by kernel_rfl, fun W hW => ?y14⟩) hHeld ?r14
        · go_simp
        refine wpAnyH_ready (rs := [15]) (by kernel_rfl) (by simp) ?_
        refine AllReadyH.cons rfl (fun K hK => ?_) AllReadyH.nil
        go_simp
        have TS : Turn (fun k => k = g3) w1 (w2.setCell ⟨g3, 2, none⟩ (.slice (some ⟨g2, 0, none⟩) n c2)) := (hT2.of_no (S := fun k => k = g3)).setCell (p := ⟨g3, 2, none⟩) (fun _ => rfl) _
        refine hK.out _ _ TS (fun hHeld => ?_)
        clear hK
        refine wpAnyH_done (by kernel_rfl) ?_ _
        go_simp
        go_wp2_with fail
        go_meet
        case rel => exact ⟨rfl, g2, c2, own_end HO.out hn.out HOKS.out (by have := HG1.out; omega) 2 _, by have := HG1.out; omega, TS, (HR1.out.turn hT2 (fun q => q)).set 2 _⟩
    · obtain ⟨v1, w1a, v2, w2, r1, hT1, r2, hT2, hO, g2, c2, rfl, hc2, hg2⟩ := HAC.out
      clear HAA HAB HAC
      have HO := shut hO
      clear hO
      go_simp
      refine hK.out _ _ ((Turn.refl no w1).drew.alloc (.cells mb71A 49)).of_no (fun hHeld => ?_)
      clear hK
      refine wpAnyH_ready (rs := [0]) (by kernel_rfl) (by simp) ?_
      refine AllReadyH.cons rfl (fun K hK => ?_) AllReadyH.nil
      go_simp
      refine hK.out _ _ ((((Turn.refl no w1).drew.alloc (.cells mb71A 49)).alloc (.cells #[] 49)).of_no) (fun hHeld => ?_)
      clear hK
      refine wpAnyH_ready (rs := [4]) (by kernel_rfl) (by simp) ?_
      refine AllReadyH.cons rfl (fun K hK => ?_) AllReadyH.nil
      rw [if_pos (by kernel_rfl)]
      refine wp_append_run _ _ rfl _ _ rfl rfl r1 ?_
      refine hK.out _ _ (hT1.of_no) (fun hHeld => ?_)
      clear hK
      refine wpAnyH_ready (rs := [7]) (by kernel_rfl) (by simp) ?_
      refine AllReadyH.cons rfl (fun K hK => ?_) AllReadyH.nil
      rw [if_pos (by kernel_rfl)]
      refine wp_append_run _ _ rfl _ _ rfl rfl r2 ?_
      refine hK.out _ _ (hT2.of_no) (fun hHeld => ?_)
      clear hK
      have zc := ((HR1.out).turn hT2 (fun q => q)).cell 2 _ HB1.out
      have zf := ((HR1.out).turn hT2 (fun q => q)).frozen 2
      refine' wpAnyH_take (i := 12) (v := .slice (some ⟨g2, 0, none⟩) n c2) rfl (by kernel_rfl) (by kernel_rfl) (by kernel_rfl) (fun _ _ _ h => h) (Or.inl ⟨by kernel_rfl, fun W hW => ?y15⟩) hHeld ?r15
      · have hcc : ¬ c2 < n := by omega
        go_simp
      refine' wpAnyH_take (i := 13) (v := .pointer (some ⟨g3, 2, none⟩)) rfl (by kernel_rfl) (by kernel_rfl) (by kernel_rfl) (fun _ _ _ h => h) (Or.inl ⟨by kernel_rfl, fun W hW => ?y16⟩) hHeld ?r16
      · go_simp
      refine' wpAnyH_take (i := 14) (v := .pointer (some ⟨g3, 2, none⟩)) rfl (by kernel_rfl) (by kernel_rfl) (by kernel_rfl) (fun _ _ _ h => h) (Or.inl ⟨by kernel_rfl, fun W hW => ?y17⟩) hHeld ?r17
      · go_simp
      refine wpAnyH_ready (rs := [15]) (by kernel_rfl) (by simp) ?_
      refine AllReadyH.cons rfl (fun K hK => ?_) AllReadyH.nil
      go_simp
      have TS : Turn (fun k => k = g3) w1 (w2.setCell ⟨g3, 2, none⟩ (.slice (some ⟨g2, 0, none⟩) n c2)) := (hT2.of_no (S := fun k => k = g3)).setCell (p := ⟨g3, 2, none⟩) (fun _ => rfl) _
      refine hK.out _ _ TS (fun hHeld => ?_)
      clear hK
      refine wpAnyH_done (by kernel_rfl) ?_ _
      go_simp
      go_wp2_with fail
      go_meet
      case rel => exact ⟨rfl, g2, c2, own_end HO.out hn.out HOKS.out (by have := HG1.out; omega) 2 _, by have := HG1.out; omega, TS, (HR1.out.turn hT2 (fun q => q)).set 2 _⟩
  case rest =>
    obtain ⟨rfl, g, c, H1⟩ := hcut
    obtain ⟨wx, rfl⟩ : ∃ wx : World, wx = wc := ⟨_, rfl⟩
    have HKx : Shut (∀ W, Turn (fun k => k = g3) wx W → Row W w.heap.size B 35 ∧ Row W (w.heap.size + 1) ZC 35 ∧ Turn no w W) := fun W t => HK.out W (H1.out.2.2.1.trans t (fun _ _ e => e))
    have HRx := shut H1.out.2.2.2
    have HMx := shut H1.out.1
    have HGx := shut H1.out.2.1
    have HC2 : Shut ((B.setIfInBounds 2 (.slice (some ⟨g, 0, none⟩) n c))[37]? = some (.slice none 0 0)) := by show _ = _; rw [Array.getElem?_setIfInBounds_ne (by decide)]; exact HB2.out
    have HLx : Shut (g3 < wx.heap.size) := HRx.out.lt
    clear HK HR1 H1 HSRC HBN HMN HOKS
    go_upto_region 3 with fail
    go_cut [3] from 5 to 62 (fun c3 wy => c3 = .pointer (some ⟨g3, 0, none⟩) ∧ ∃ ga ca, Shut (Beh wy ga ca (mkL mk71) ∧ g3 < ga ∧ Turn (fun k => k = g3) wx wy ∧ Row wy g3 ((B.setIfInBounds 2 (.slice (some ⟨g, 0, none⟩) n c)).setIfInBounds 37 (.slice (some ⟨ga, 0, none⟩) 0 ca)) 35))
    case first =>
      have HAA := shut (app_a Try.underlying29 info51 rfl (by decide) wx (vs := .slice none 0 0) (n := 0) (news := []) (fun W _ => Src.ofNil W Try.underlying29 0) (X := (mkA mk71)) rfl (mkL_one mk71) (by decide) (by decide))
      have HAB := shut (app_b Try.underlying29 info51 rfl (by decide) wx (vs := .slice none 0 0) (n := 0) (news := []) (fun W _ => Src.ofNil W Try.underlying29 0) (X := (mkA mk71)) rfl (mkL_one mk71) (by decide) (by decide))
      have HAC := shut (app_c Try.underlying29 info51 rfl (by decide) wx (vs := .slice none 0 0) (n := 0) (news := []) (fun W _ => Src.ofNil W Try.underlying29 0) (X := (mkA mk71)) rfl (mkL_one mk71) (by decide) (by decide))
      refine wp_region_held_drew (S := fun W => Turn (fun k => k = g3) wx W) (by kernel_rfl) (Turn.refl _ wx).drew (fun hHeld => ?_)
      refine' wpAnyH_take (i := 1) (v := .pointer (some ⟨w.heap.size, 3, none⟩)) rfl (by kernel_rfl) (by kernel_rfl) (by kernel_rfl) (fun _ _ _ h => h) (Or.inl ⟨by kernel_rfl, fun W hW => ?y18⟩) hHeld ?r18
      · go_simp
      refine' wpAnyH_take (i := 2) (v := .pointer (some ⟨w.heap.size, 37, none⟩)) rfl (by kernel_rfl) (by kernel_rfl) (by kernel_rfl) (fun _ _ _ h => h) (Or.inl ⟨by kernel_rfl, fun W hW => ?y19⟩) hHeld ?r19
      · go_simp
      refine' wpAnyH_take (i := 3) (v := .slice none 0 0) rfl (by kernel_rfl) (by kernel_rfl) (by kernel_rfl) (fun _ _ _ h => h) (Or.inl ⟨by kernel_rfl, fun W hW => ?y20⟩) hHeld ?r20
      · have z := (HKx.out W hW).1.cell 37 _ HB2.out
        go_simp
      refine' wpAnyH_take (i := 5) (v := .agg (mkA mk71)) rfl (by kernel_rfl) (by kernel_rfl) (by kernel_rfl) (fun _ _ _ h => h) (Or.inl ⟨by kernel_rfl, fun W hW => ?y21⟩) hHeld ?r21
      · go_simp
        rfl
      refine' wpAnyH_take (i := 8) (v := .pointer (some ⟨w.heap.size, 3, none⟩)) rfl (by kernel_rfl) (by kernel_rfl) (by kernel_rfl) (fun _ _ _ h => h) (Or.inl ⟨by kernel_rfl, fun W hW => ?y22⟩) hHeld ?r22
      · go_simp
      refine' wpAnyH_take (i := 9) (v := .pointer (some ⟨w.heap.size, 37, none⟩)) rfl (by kernel_rfl) (by kernel_rfl) (by kernel_rfl) (fun _ _ _ h => h) (Or.inl ⟨by kernel_rfl, fun W hW => ?y23⟩) hHeld ?r23
      · go_simp
      refine' wpAnyH_take (i := 10) (v := .slice none 0 0) rfl (by kernel_rfl) (by kernel_rfl) (by kernel_rfl) (fun _ _ _ h => h) (Or.inl ⟨by kernel_rfl, fun W hW => ?y24⟩) hHeld ?r24
      · have z := (HKx.out W hW).1.cell 37 _ HB2.out
        go_simp
      refine' wpAnyH_take (i := 11) (v := .int .i64 0) rfl (by kernel_rfl) (by kernel_rfl) (by kernel_rfl) (fun _ _ _ h => h) (Or.inl ⟨by kernel_rfl, fun W hW => ?y25⟩) hHeld ?r25
      · go_simp
      refine wpAnyH_ready (rs := [0, 6]) (by kernel_rfl) (by simp) ?_
      refine AllReadyH.cons rfl (fun K hK => ?_) (AllReadyH.cons rfl (fun K hK => ?_) AllReadyH.nil)
      · go_simp
        refine hK.out _ _ ((Turn.refl no wx).drew.alloc (.cells #[] 51)).of_no (fun hHeld => ?_)
        clear hK
        refine wpAnyH_ready (rs := [4, 6]) (by kernel_rfl) (by simp) ?_
        refine AllReadyH.cons rfl (fun K hK => ?_) (AllReadyH.cons rfl (fun K hK => ?_) AllReadyH.nil)
        · obtain ⟨v1, w1a, v2, w2, r1, hT1, r2, hTX, hT2, hO, g2, c2, rfl, hc2, hg2⟩ := HAA.out
          clear HAA HAB HAC
          have HO := shut hO
          clear hO
          rw [if_pos (by kernel_rfl)]
          refine wp_append_run _ _ rfl _ _ rfl rfl r1 ?_
          refine hK.out _ _ hT1.of_no (fun hHeld => ?_)
          clear hK r1
          refine wpAnyH_ready (rs := [6]) (by kernel_rfl) (by simp) ?_
          refine AllReadyH.cons rfl (fun K hK => ?_) AllReadyH.nil
          go_simp
          refine hK.out _ _ (hTX.of_no) (fun hHeld => ?_)
          clear hK
          refine wpAnyH_ready (rs := [7]) (by kernel_rfl) (by simp) ?_
          refine AllReadyH.cons rfl (fun K hK => ?_) AllReadyH.nil
          rw [if_pos (by kernel_rfl)]
          refine wp_append_run _ _ rfl _ _ rfl rfl r2 ?_
          refine hK.out _ _ (hT2.of_no) (fun hHeld => ?_)
          clear hK
          have zc := ((HRx.out).turn hT2 (fun q => q)).cell 37 _ HC2.out
          have zf := ((HRx.out).turn hT2 (fun q => q)).frozen 37
          refine' wpAnyH_take (i := 12) (v := .slice (some ⟨g2, 0, none⟩) 0 c2) rfl (by kernel_rfl) (by kernel_rfl) (by kernel_rfl) (fun _ _ _ h => h) (Or.inl ⟨by kernel_rfl, fun W hW => ?y26⟩) hHeld ?r26
          · have hcc : ¬ c2 < 0 := by omega
            go_simp
          refine' wpAnyH_take (i := 13) (v := .pointer (some ⟨g3, 3, none⟩)) rfl (by kernel_rfl) (by kernel_rfl) (by kernel_rfl) (fun _ _ _ h => h) (Or.inl ⟨by kernel_rfl, fun W hW => ?y27⟩) hHeld ?r27
          · go_simp
          refine' wpAnyH_take (i := 14) (v := .pointer (some ⟨g3, 37, none⟩)) rfl (by kernel_rfl) (by kernel_rfl) (by kernel_rfl) (fun _ _ _ h => h) (Or.inl ⟨by kernel_rfl, fun W hW => ?y28⟩) hHeld ?r28
          · go_simp
          refine wpAnyH_ready (rs := [15]) (by kernel_rfl) (by simp) ?_
          refine AllReadyH.cons rfl (fun K hK => ?_) AllReadyH.nil
          go_simp
          have TS : Turn (fun k => k = g3) wx (w2.setCell ⟨g3, 37, none⟩ (.slice (some ⟨g2, 0, none⟩) 0 c2)) := (hT2.of_no (S := fun k => k = g3)).setCell (p := ⟨g3, 37, none⟩) (fun _ => rfl) _
          refine hK.out _ _ TS (fun hHeld => ?_)
          clear hK
          refine wpAnyH_done (by kernel_rfl) ?_ _
          go_simp
          go_wp2_with fail
          go_meet
          case rel => exact ⟨rfl, g2, c2, beh_end HO.out (by have := HLx.out; omega) 37 _, by have := HLx.out; omega, TS, (HRx.out.turn hT2 (fun q => q)).set 37 _⟩
        · obtain ⟨v1, w1a, v2, w2, r1, hT1, r2, hT2, hO, g2, c2, rfl, hc2, hg2⟩ := HAB.out
          clear HAA HAB HAC
          have HO := shut hO
          clear hO
          go_simp
          refine hK.out _ _ (((Turn.refl no wx).drew.alloc (.cells #[] 51)).alloc (.cells (mkA mk71) 51)).of_no (fun hHeld => ?_)
          clear hK
          refine wpAnyH_ready (rs := [4]) (by kernel_rfl) (by simp) ?_
          refine AllReadyH.cons rfl (fun K hK => ?_) AllReadyH.nil
          rw [if_pos (by kernel_rfl)]
          refine wp_append_run _ _ rfl _ _ rfl rfl r1 ?_
          refine hK.out _ _ (hT1.of_no) (fun hHeld => ?_)
          clear hK
          refine wpAnyH_ready (rs := [7]) (by kernel_rfl) (by simp) ?_
          refine AllReadyH.cons rfl (fun K hK => ?_) AllReadyH.nil
          rw [if_pos (by kernel_rfl)]
          refine wp_append_run _ _ rfl _ _ rfl rfl r2 ?_
          refine hK.out _ _ (hT2.of_no) (fun hHeld => ?_)
          clear hK
          have zc := ((HRx.out).turn hT2 (fun q => q)).cell 37 _ HC2.out
          have zf := ((HRx.out).turn hT2 (fun q => q)).frozen 37
          refine' wpAnyH_take (i := 12) (v := .slice (some ⟨g2, 0, none⟩) 0 c2) rfl (by kernel_rfl) (by kernel_rfl) (by kernel_rfl) (fun _ _ _ h => h) (Or.inl ⟨by kernel_rfl, fun W hW => ?y29⟩) hHeld ?r29
          · have hcc : ¬ c2 < 0 := by omega
            go_simp
          refine' wpAnyH_take (i := 13) (v := .pointer (some ⟨g3, 3, none⟩)) rfl (by kernel_rfl) (by kernel_rfl) (by kernel_rfl) (fun _ _ _ h => h) (Or.inl ⟨by kernel_rfl, fun W hW => ?y30⟩) hHeld ?r30
          · go_simp
          refine' wpAnyH_take (i := 14) (v := .pointer (some ⟨g3, 37, none⟩)) rfl (by kernel_rfl) (by kernel_rfl) (by kernel_rfl) (fun _ _ _ h => h) (Or.inl ⟨by kernel_rfl, fun W hW => ?y31⟩) hHeld ?r31
          · go_simp
          refine wpAnyH_ready (rs := [15]) (by kernel_rfl) (by simp) ?_
          refine AllReadyH.cons rfl (fun K hK => ?_) AllReadyH.nil
          go_simp
          have TS : Turn (fun k => k = g3) wx (w2.setCell ⟨g3, 37, none⟩ (.slice (some ⟨g2, 0, none⟩) 0 c2)) := (hT2.of_no (S := fun k => k = g3)).setCell (p := ⟨g3, 37, none⟩) (fun _ => rfl) _
          refine hK.out _ _ TS (fun hHeld => ?_)
          clear hK
          refine wpAnyH_done (by kernel_rfl) ?_ _
          go_simp
          go_wp2_with fail
          go_meet
          case rel => exact ⟨rfl, g2, c2, beh_end HO.out (by have := HLx.out; omega) 37 _, by have := HLx.out; omega, TS, (HRx.out.turn hT2 (fun q => q)).set 37 _⟩
      · obtain ⟨v1, w1a, v2, w2, r1, hT1, r2, hT2, hO, g2, c2, rfl, hc2, hg2⟩ := HAC.out
        clear HAA HAB HAC
        have HO := shut hO
        clear hO
        go_simp
        refine hK.out _ _ ((Turn.refl no wx).drew.alloc (.cells (mkA mk71) 51)).of_no (fun hHeld => ?_)
        clear hK
        refine wpAnyH_ready (rs := [0]) (by kernel_rfl) (by simp) ?_
        refine AllReadyH.cons rfl (fun K hK => ?_) AllReadyH.nil
        go_simp
        refine hK.out _ _ ((((Turn.refl no wx).drew.alloc (.cells (mkA mk71) 51)).alloc (.cells #[] 51)).of_no) (fun hHeld => ?_)
        clear hK
        refine wpAnyH_ready (rs := [4]) (by kernel_rfl) (by simp) ?_
        refine AllReadyH.cons rfl (fun K hK => ?_) AllReadyH.nil
        rw [if_pos (by kernel_rfl)]
        refine wp_append_run _ _ rfl _ _ rfl rfl r1 ?_
        refine hK.out _ _ (hT1.of_no) (fun hHeld => ?_)
        clear hK
        refine wpAnyH_ready (rs := [7]) (by kernel_rfl) (by simp) ?_
        refine AllReadyH.cons rfl (fun K hK => ?_) AllReadyH.nil
        rw [if_pos (by kernel_rfl)]
        refine wp_append_run _ _ rfl _ _ rfl rfl r2 ?_
        refine hK.out _ _ (hT2.of_no) (fun hHeld => ?_)
        clear hK
        have zc := ((HRx.out).turn hT2 (fun q => q)).cell 37 _ HC2.out
        have zf := ((HRx.out).turn hT2 (fun q => q)).frozen 37
        refine' wpAnyH_take (i := 12) (v := .slice (some ⟨g2, 0, none⟩) 0 c2) rfl (by kernel_rfl) (by kernel_rfl) (by kernel_rfl) (fun _ _ _ h => h) (Or.inl ⟨by kernel_rfl, fun W hW => ?y32⟩) hHeld ?r32
        · have hcc : ¬ c2 < 0 := by omega
          go_simp
        refine' wpAnyH_take (i := 13) (v := .pointer (some ⟨g3, 3, none⟩)) rfl (by kernel_rfl) (by kernel_rfl) (by kernel_rfl) (fun _ _ _ h => h) (Or.inl ⟨by kernel_rfl, fun W hW => ?y33⟩) hHeld ?r33
        · go_simp
        refine' wpAnyH_take (i := 14) (v := .pointer (some ⟨g3, 37, none⟩)) rfl (by kernel_rfl) (by kernel_rfl) (by kernel_rfl) (fun _ _ _ h => h) (Or.inl ⟨by kernel_rfl, fun W hW => ?y34⟩) hHeld ?r34
        · go_simp
        refine wpAnyH_ready (rs := [15]) (by kernel_rfl) (by simp) ?_
        refine AllReadyH.cons rfl (fun K hK => ?_) AllReadyH.nil
        go_simp
        have TS : Turn (fun k => k = g3) wx (w2.setCell ⟨g3, 37, none⟩ (.slice (some ⟨g2, 0, none⟩) 0 c2)) := (hT2.of_no (S := fun k => k = g3)).setCell (p := ⟨g3, 37, none⟩) (fun _ => rfl) _
        refine hK.out _ _ TS (fun hHeld => ?_)
        clear hK
        refine wpAnyH_done (by kernel_rfl) ?_ _
        go_simp
        go_wp2_with fail
        go_meet
        case rel => exact ⟨rfl, g2, c2, beh_end HO.out (by have := HLx.out; omega) 37 _, by have := HLx.out; omega, TS, (HRx.out.turn hT2 (fun q => q)).set 37 _⟩
    case rest =>
      obtain ⟨rfl, ga, ca, H1⟩ := hcut
      obtain ⟨wy, rfl⟩ : ∃ wy : World, wy = wc := ⟨_, rfl⟩
      have HKy : Shut (∀ W, Turn (fun k => k = g3) wy W → Row W w.heap.size B 35 ∧ Row W (w.heap.size + 1) ZC 35 ∧ Turn no w W) := fun W t => HKx.out W (H1.out.2.2.1.trans t (fun _ _ e => e))
      have HRy := shut H1.out.2.2.2
      have HMy := shut (HMx.out.turn H1.out.2.2.1 (fun x q => by cases q; show ¬ g = g3; have := HGx.out; omega))
      have HAy := shut H1.out.1
      have HGa := shut H1.out.2.1
      have HC3 : Shut (((B.setIfInBounds 2 (.slice (some ⟨g, 0, none⟩) n c)).setIfInBounds 37 (.slice (some ⟨ga, 0, none⟩) 0 ca))[72]? = some (.slice none 0 0)) := by show _ = _; rw [Array.getElem?_setIfInBounds_ne (by decide), Array.getElem?_setIfInBounds_ne (by decide)]; exact HB3.out
      have HLy : Shut (g3 < wy.heap.size) := HRy.out.lt
      clear HKx HRx H1 HMx HC2 HLx
      go_upto_region 4 with fail
      go_cut [3] from 5 to 62 (fun c3 wz => c3 = .pointer (some ⟨g3, 0, none⟩) ∧ ∃ gb cb, Shut (Beh wz gb cb (mkL mk71) ∧ g3 < gb ∧ Turn (fun k => k = g3) wy wz ∧ Row wz g3 (((B.setIfInBounds 2 (.slice (some ⟨g, 0, none⟩) n c)).setIfInBounds 37 (.slice (some ⟨ga, 0, none⟩) 0 ca)).setIfInBounds 72 (.slice (some ⟨gb, 0, none⟩) 0 cb)) 35))
      case first =>
        have HAA := shut (app_a Try.underlying29 info51 rfl (by decide) wy (vs := .slice none 0 0) (n := 0) (news := []) (fun W _ => Src.ofNil W Try.underlying29 0) (X := (mkA mk71)) rfl (mkL_one mk71) (by decide) (by decide))
        have HAB := shut (app_b Try.underlying29 info51 rfl (by decide) wy (vs := .slice none 0 0) (n := 0) (news := []) (fun W _ => Src.ofNil W Try.underlying29 0) (X := (mkA mk71)) rfl (mkL_one mk71) (by decide) (by decide))
        have HAC := shut (app_c Try.underlying29 info51 rfl (by decide) wy (vs := .slice none 0 0) (n := 0) (news := []) (fun W _ => Src.ofNil W Try.underlying29 0) (X := (mkA mk71)) rfl (mkL_one mk71) (by decide) (by decide))
        refine wp_region_held_drew (S := fun W => Turn (fun k => k = g3) wy W) (by kernel_rfl) (Turn.refl _ wy).drew (fun hHeld => ?_)
        refine' wpAnyH_take (i := 1) (v := .pointer (some ⟨w.heap.size, 38, none⟩)) rfl (by kernel_rfl) (by kernel_rfl) (by kernel_rfl) (fun _ _ _ h => h) (Or.inl ⟨by kernel_rfl, fun W hW => ?y35⟩) hHeld ?r35
        · go_simp
        refine' wpAnyH_take (i := 2) (v := .pointer (some ⟨w.heap.size, 72, none⟩)) rfl (by kernel_rfl) (by kernel_rfl) (by kernel_rfl) (fun _ _ _ h => h) (Or.inl ⟨by kernel_rfl, fun W hW => ?y36⟩) hHeld ?r36
        · go_simp
        refine' wpAnyH_take (i := 3) (v := .slice none 0 0) rfl (by kernel_rfl) (by kernel_rfl) (by kernel_rfl) (fun _ _ _ h => h) (Or.inl ⟨by kernel_rfl, fun W hW => ?y37⟩) hHeld ?r37
        · have z := (HKy.out W hW).1.cell 72 _ HB3.out
          go_simp
        refine' wpAnyH_take (i := 5) (v := .agg (mkA mk71)) rfl (by kernel_rfl) (by kernel_rfl) (by kernel_rfl) (fun _ _ _ h => h) (Or.inl ⟨by kernel_rfl, fun W hW => ?y38⟩) hHeld ?r38
        · go_simp
          rfl
        refine' wpAnyH_take (i := 8) (v := .pointer (some ⟨w.heap.size, 38, none⟩)) rfl (by kernel_rfl) (by kernel_rfl) (by kernel_rfl) (fun _ _ _ h => h) (Or.inl ⟨by kernel_rfl, fun W hW => ?y39⟩) hHeld ?r39
        · go_simp
        refine' wpAnyH_take (i := 9) (v := .pointer (some ⟨w.heap.size, 72, none⟩)) rfl (by kernel_rfl) (by kernel_rfl) (by kernel_rfl) (fun _ _ _ h => h) (Or.inl ⟨by kernel_rfl, fun W hW => ?y40⟩) hHeld ?r40
        · go_simp
        refine' wpAnyH_take (i := 10) (v := .slice none 0 0) rfl (by kernel_rfl) (by kernel_rfl) (by kernel_rfl) (fun _ _ _ h => h) (Or.inl ⟨by kernel_rfl, fun W hW => ?y41⟩) hHeld ?r41
        · have z := (HKy.out W hW).1.cell 72 _ HB3.out
          go_simp
        refine' wpAnyH_take (i := 11) (v := .int .i64 0) rfl (by kernel_rfl) (by kernel_rfl) (by kernel_rfl) (fun _ _ _ h => h) (Or.inl ⟨by kernel_rfl, fun W hW => ?y42⟩) hHeld ?r42
        · go_simp
        refine wpAnyH_ready (rs := [0, 6]) (by kernel_rfl) (by simp) ?_
        refine AllReadyH.cons rfl (fun K hK => ?_) (AllReadyH.cons rfl (fun K hK => ?_) AllReadyH.nil)
        · go_simp
          refine hK.out _ _ ((Turn.refl no wy).drew.alloc (.cells #[] 51)).of_no (fun hHeld => ?_)
          clear hK
          refine wpAnyH_ready (rs := [4, 6]) (by kernel_rfl) (by simp) ?_
          refine AllReadyH.cons rfl (fun K hK => ?_) (AllReadyH.cons rfl (fun K hK => ?_) AllReadyH.nil)
          · obtain ⟨v1, w1a, v2, w2, r1, hT1, r2, hTX, hT2, hO, g2, c2, rfl, hc2, hg2⟩ := HAA.out
            clear HAA HAB HAC
            have HO := shut hO
            clear hO
            rw [if_pos (by kernel_rfl)]
            refine wp_append_run _ _ rfl _ _ rfl rfl r1 ?_
            refine hK.out _ _ hT1.of_no (fun hHeld => ?_)
            clear hK r1
            refine wpAnyH_ready (rs := [6]) (by kernel_rfl) (by simp) ?_
            refine AllReadyH.cons rfl (fun K hK => ?_) AllReadyH.nil
            go_simp
            refine hK.out _ _ (hTX.of_no) (fun hHeld => ?_)
            clear hK
            refine wpAnyH_ready (rs := [7]) (by kernel_rfl) (by simp) ?_
            refine AllReadyH.cons rfl (fun K hK => ?_) AllReadyH.nil
            rw [if_pos (by kernel_rfl)]
            refine wp_append_run _ _ rfl _ _ rfl rfl r2 ?_
            refine hK.out _ _ (hT2.of_no) (fun hHeld => ?_)
            clear hK
            have zc := ((HRy.out).turn hT2 (fun q => q)).cell 72 _ HC3.out
            have zf := ((HRy.out).turn hT2 (fun q => q)).frozen 72
            refine' wpAnyH_take (i := 12) (v := .slice (some ⟨g2, 0, none⟩) 0 c2) rfl (by kernel_rfl) (by kernel_rfl) (by kernel_rfl) (fun _ _ _ h => h) (Or.inl ⟨by kernel_rfl, fun W hW => ?y43⟩) hHeld ?r43
            · have hcc : ¬ c2 < 0 := by omega
              go_simp
            refine' wpAnyH_take (i := 13) (v := .pointer (some ⟨g3, 38, none⟩)) rfl (by kernel_rfl) (by kernel_rfl) (by kernel_rfl) (fun _ _ _ h => h) (Or.inl ⟨by kernel_rfl, fun W hW => ?y44⟩) hHeld ?r44
            · go_simp
            refine' wpAnyH_take (i := 14) (v := .pointer (some ⟨g3, 72, none⟩)) rfl (by kernel_rfl) (by kernel_rfl) (by kernel_rfl) (fun _ _ _ h => h) (Or.inl ⟨by kernel_rfl, fun W hW => ?y45⟩) hHeld ?r45
            · go_simp
            refine wpAnyH_ready (rs := [15]) (by kernel_rfl) (by simp) ?_
            refine AllReadyH.cons rfl (fun K hK => ?_) AllReadyH.nil
            go_simp
            have TS : Turn (fun k => k = g3) wy (w2.setCell ⟨g3, 72, none⟩ (.slice (some ⟨g2, 0, none⟩) 0 c2)) := (hT2.of_no (S := fun k => k = g3)).setCell (p := ⟨g3, 72, none⟩) (fun _ => rfl) _
            refine hK.out _ _ TS (fun hHeld => ?_)
            clear hK
            refine wpAnyH_done (by kernel_rfl) ?_ _
            go_simp
            go_wp2_with fail
            go_meet
            case rel => exact ⟨rfl, g2, c2, beh_end HO.out (by have := HLy.out; omega) 72 _, by have := HLy.out; omega, TS, (HRy.out.turn hT2 (fun q => q)).set 72 _⟩
          · obtain ⟨v1, w1a, v2, w2, r1, hT1, r2, hT2, hO, g2, c2, rfl, hc2, hg2⟩ := HAB.out
            clear HAA HAB HAC
            have HO := shut hO
            clear hO
            go_simp
            refine hK.out _ _ (((Turn.refl no wy).drew.alloc (.cells #[] 51)).alloc (.cells (mkA mk71) 51)).of_no (fun hHeld => ?_)
            clear hK
            refine wpAnyH_ready (rs := [4]) (by kernel_rfl) (by simp) ?_
            refine AllReadyH.cons rfl (fun K hK => ?_) AllReadyH.nil
            rw [if_pos (by kernel_rfl)]
            refine wp_append_run _ _ rfl _ _ rfl rfl r1 ?_
            refine hK.out _ _ (hT1.of_no) (fun hHeld => ?_)
            clear hK
            refine wpAnyH_ready (rs := [7]) (by kernel_rfl) (by simp) ?_
            refine AllReadyH.cons rfl (fun K hK => ?_) AllReadyH.nil
            rw [if_pos (by kernel_rfl)]
            refine wp_append_run _ _ rfl _ _ rfl rfl r2 ?_
            refine hK.out _ _ (hT2.of_no) (fun hHeld => ?_)
            clear hK
            have zc := ((HRy.out).turn hT2 (fun q => q)).cell 72 _ HC3.out
            have zf := ((HRy.out).turn hT2 (fun q => q)).frozen 72
            refine' wpAnyH_take (i := 12) (v := .slice (some ⟨g2, 0, none⟩) 0 c2) rfl (by kernel_rfl) (by kernel_rfl) (by kernel_rfl) (fun _ _ _ h => h) (Or.inl ⟨by kernel_rfl, fun W hW => ?y46⟩) hHeld ?r46
            · have hcc : ¬ c2 < 0 := by omega
              go_simp
            refine' wpAnyH_take (i := 13) (v := .pointer (some ⟨g3, 38, none⟩)) rfl (by kernel_rfl) (by kernel_rfl) (by kernel_rfl) (fun _ _ _ h => h) (Or.inl ⟨by kernel_rfl, fun W hW => ?y47⟩) hHeld ?r47
            · go_simp
            refine' wpAnyH_take (i := 14) (v := .pointer (some ⟨g3, 72, none⟩)) rfl (by kernel_rfl) (by kernel_rfl) (by kernel_rfl) (fun _ _ _ h => h) (Or.inl ⟨by kernel_rfl, fun W hW => ?y48⟩) hHeld ?r48
            · go_simp
            refine wpAnyH_ready (rs := [15]) (by kernel_rfl) (by simp) ?_
            refine AllReadyH.cons rfl (fun K hK => ?_) AllReadyH.nil
            go_simp
            have TS : Turn (fun k => k = g3) wy (w2.setCell ⟨g3, 72, none⟩ (.slice (some ⟨g2, 0, none⟩) 0 c2)) := (hT2.of_no (S := fun k => k = g3)).setCell (p := ⟨g3, 72, none⟩) (fun _ => rfl) _
            refine hK.out _ _ TS (fun hHeld => ?_)
            clear hK
            refine wpAnyH_done (by kernel_rfl) ?_ _
            go_simp
            go_wp2_with fail
            go_meet
            case rel => exact ⟨rfl, g2, c2, beh_end HO.out (by have := HLy.out; omega) 72 _, by have := HLy.out; omega, TS, (HRy.out.turn hT2 (fun q => q)).set 72 _⟩
        · obtain ⟨v1, w1a, v2, w2, r1, hT1, r2, hT2, hO, g2, c2, rfl, hc2, hg2⟩ := HAC.out
          clear HAA HAB HAC
          have HO := shut hO
          clear hO
          go_simp
          refine hK.out _ _ ((Turn.refl no wy).drew.alloc (.cells (mkA mk71) 51)).of_no (fun hHeld => ?_)
          clear hK
          refine wpAnyH_ready (rs := [0]) (by kernel_rfl) (by simp) ?_
          refine AllReadyH.cons rfl (fun K hK => ?_) AllReadyH.nil
          go_simp
          refine hK.out _ _ ((((Turn.refl no wy).drew.alloc (.cells (mkA mk71) 51)).alloc (.cells #[] 51)).of_no) (fun hHeld => ?_)
          clear hK
          refine wpAnyH_ready (rs := [4]) (by kernel_rfl) (by simp) ?_
          refine AllReadyH.cons rfl (fun K hK => ?_) AllReadyH.nil
          rw [if_pos (by kernel_rfl)]
          refine wp_append_run _ _ rfl _ _ rfl rfl r1 ?_
          refine hK.out _ _ (hT1.of_no) (fun hHeld => ?_)
          clear hK
          refine wpAnyH_ready (rs := [7]) (by kernel_rfl) (by simp) ?_
          refine AllReadyH.cons rfl (fun K hK => ?_) AllReadyH.nil
          rw [if_pos (by kernel_rfl)]
          refine wp_append_run _ _ rfl _ _ rfl rfl r2 ?_
          refine hK.out _ _ (hT2.of_no) (fun hHeld => ?_)
          clear hK
          have zc := ((HRy.out).turn hT2 (fun q => q)).cell 72 _ HC3.out
          have zf := ((HRy.out).turn hT2 (fun q => q)).frozen 72
          refine' wpAnyH_take (i := 12) (v := .slice (some ⟨g2, 0, none⟩) 0 c2) rfl (by kernel_rfl) (by kernel_rfl) (by kernel_rfl) (fun _ _ _ h => h) (Or.inl ⟨by kernel_rfl, fun W hW => ?y49⟩) hHeld ?r49
          · have hcc : ¬ c2 < 0 := by omega
            go_simp
          refine' wpAnyH_take (i := 13) (v := .pointer (some ⟨g3, 38, none⟩)) rfl (by kernel_rfl) (by kernel_rfl) (by kernel_rfl) (fun _ _ _ h => h) (Or.inl ⟨by kernel_rfl, fun W hW => ?y50⟩) hHeld ?r50
          · go_simp
          refine' wpAnyH_take (i := 14) (v := .pointer (some ⟨g3, 72, none⟩)) rfl (by kernel_rfl) (by kernel_rfl) (by kernel_rfl) (fun _ _ _ h => h) (Or.inl ⟨by kernel_rfl, fun W hW => ?y51⟩) hHeld ?r51
          · go_simp
          refine wpAnyH_ready (rs := [15]) (by kernel_rfl) (by simp) ?_
          refine AllReadyH.cons rfl (fun K hK => ?_) AllReadyH.nil
          go_simp
          have TS : Turn (fun k => k = g3) wy (w2.setCell ⟨g3, 72, none⟩ (.slice (some ⟨g2, 0, none⟩) 0 c2)) := (hT2.of_no (S := fun k => k = g3)).setCell (p := ⟨g3, 72, none⟩) (fun _ => rfl) _
          refine hK.out _ _ TS (fun hHeld => ?_)
          clear hK
          refine wpAnyH_done (by kernel_rfl) ?_ _
          go_simp
          go_wp2_with fail
          go_meet
          case rel => exact ⟨rfl, g2, c2, beh_end HO.out (by have := HLy.out; omega) 72 _, by have := HLy.out; omega, TS, (HRy.out.turn hT2 (fun q => q)).set 72 _⟩
      case rest =>
        obtain ⟨rfl, gb, cb, H1⟩ := hcut
        obtain ⟨wz, rfl⟩ : ∃ wz : World, wz = wc := ⟨_, rfl⟩
        have HKz : Shut (∀ W, Turn (fun k => k = g3) wz W → Row W w.heap.size B 35 ∧ Row W (w.heap.size + 1) ZC 35 ∧ Turn no w W) := fun W t => HKy.out W (H1.out.2.2.1.trans t (fun _ _ e => e))
        have HRz := shut H1.out.2.2.2
        have HMz := shut (HMy.out.turn H1.out.2.2.1 (fun x q => by cases q; show ¬ g = g3; have := HGx.out; omega))
        have HAz := shut (HAy.out.turn H1.out.2.2.1 (by have := HGa.out; omega))
        have HBz := shut H1.out.1
        have HGb := shut H1.out.2.1
        have HC4 : Shut ((((B.setIfInBounds 2 (.slice (some ⟨g, 0, none⟩) n c)).setIfInBounds 37 (.slice (some ⟨ga, 0, none⟩) 0 ca)).setIfInBounds 72 (.slice (some ⟨gb, 0, none⟩) 0 cb))[73]? = some (.slice none 0 0)) := by show _ = _; rw [Array.getElem?_setIfInBounds_ne (by decide), Array.getElem?_setIfInBounds_ne (by decide), Array.getElem?_setIfInBounds_ne (by decide)]; exact HB4.out
        have HLz : Shut (g3 < wz.heap.size) := HRz.out.lt
        clear HKy HRy H1 HMy HAy HC3 HLy
        go_upto_region 5 with fail
        go_cut [3] from 5 to 62 (fun c3 wv => c3 = .pointer (some ⟨g3, 0, none⟩) ∧ ∃ gv cv, Shut (Beh wv gv cv vt71.cs ∧ g3 < gv ∧ Turn (fun k => k = g3) wz wv ∧ Row wv g3 ((((B.setIfInBounds 2 (.slice (some ⟨g, 0, none⟩) n c)).setIfInBounds 37 (.slice (some ⟨ga, 0, none⟩) 0 ca)).setIfInBounds 72 (.slice (some ⟨gb, 0, none⟩) 0 cb)).setIfInBounds 73 (.slice (some ⟨gv, 0, none⟩) 0 cv)) 35))
        case first =>
          have HAA := shut (app_a Try.underlying32 info41 rfl (by decide) wz (vs := .slice none 0 0) (n := 0) (news := []) (fun W _ => Src.ofNil W Try.underlying32 0) (X := vt71.cs.toArray) rfl vt71_one (by decide) (by decide))
          have HAB := shut (app_b Try.underlying32 info41 rfl (by decide) wz (vs := .slice none 0 0) (n := 0) (news := []) (fun W _ => Src.ofNil W Try.underlying32 0) (X := vt71.cs.toArray) rfl vt71_one (by decide) (by decide))
          have HAC := shut (app_c Try.underlying32 info41 rfl (by decide) wz (vs := .slice none 0 0) (n := 0) (news := []) (fun W _ => Src.ofNil W Try.underlying32 0) (X := vt71.cs.toArray) rfl vt71_one (by decide) (by decide))
          refine wp_region_held_drew (S := fun W => Turn (fun k => k = g3) wz W) (by kernel_rfl) (Turn.refl _ wz).drew (fun hHeld => ?_)
          refine' wpAnyH_take (i := 1) (v := .pointer (some ⟨w.heap.size, 73, none⟩)) rfl (by kernel_rfl) (by kernel_rfl) (by kernel_rfl) (fun _ _ _ h => h) (Or.inl ⟨by kernel_rfl, fun W hW => ?y52⟩) hHeld ?r52
          · go_simp
          refine' wpAnyH_take (i := 2) (v := .slice none 0 0) rfl (by kernel_rfl) (by kernel_rfl) (by kernel_rfl) (fun _ _ _ h => h) (Or.inl ⟨by kernel_rfl, fun W hW => ?y53⟩) hHeld ?r53
          · have z := (HKz.out W hW).1.cell 73 _ HB4.out
            go_simp
          refine' wpAnyH_take (i := 4) (v := .agg vt71.cs.toArray) rfl (by kernel_rfl) (by kernel_rfl) (by kernel_rfl) (fun _ _ _ h => h) (Or.inl ⟨by kernel_rfl, fun W hW => ?y54⟩) hHeld ?r54
          · go_simp
            rfl
          refine' wpAnyH_take (i := 7) (v := .pointer (some ⟨w.heap.size, 73, none⟩)) rfl (by kernel_rfl) (by kernel_rfl) (by kernel_rfl) (fun _ _ _ h => h) (Or.inl ⟨by kernel_rfl, fun W hW => ?y55⟩) hHeld ?r55
          · go_simp
          refine' wpAnyH_take (i := 8) (v := .slice none 0 0) rfl (by kernel_rfl) (by kernel_rfl) (by kernel_rfl) (fun _ _ _ h => h) (Or.inl ⟨by kernel_rfl, fun W hW => ?y56⟩) hHeld ?r56
          · have z := (HKz.out W hW).1.cell 73 _ HB4.out
            go_simp
          refine' wpAnyH_take (i := 9) (v := .int .i64 0) rfl (by kernel_rfl) (by kernel_rfl) (by kernel_rfl) (fun _ _ _ h => h) (Or.inl ⟨by kernel_rfl, fun W hW => ?y57⟩) hHeld ?r57
          · go_simp
          refine wpAnyH_ready (rs := [0, 5]) (by kernel_rfl) (by simp) ?_
          refine AllReadyH.cons rfl (fun K hK => ?_) (AllReadyH.cons rfl (fun K hK => ?_) AllReadyH.nil)
          · go_simp
            refine hK.out _ _ ((Turn.refl no wz).drew.alloc (.cells #[] 41)).of_no (fun hHeld => ?_)
            clear hK
            refine wpAnyH_ready (rs := [3, 5]) (by kernel_rfl) (by simp) ?_
            refine AllReadyH.cons rfl (fun K hK => ?_) (AllReadyH.cons rfl (fun K hK => ?_) AllReadyH.nil)
            · obtain ⟨v1, w1a, v2, w2, r1, hT1, r2, hTX, hT2, hO, g2, c2, rfl, hc2, hg2⟩ := HAA.out
              clear HAA HAB HAC
              have HO := shut hO
              clear hO
              rw [if_pos (by kernel_rfl)]
              refine wp_append_run _ _ rfl _ _ rfl rfl r1 ?_
              refine hK.out _ _ hT1.of_no (fun hHeld => ?_)
              clear hK r1
              refine wpAnyH_ready (rs := [5]) (by kernel_rfl) (by simp) ?_
              refine AllReadyH.cons rfl (fun K hK => ?_) AllReadyH.nil
              go_simp
              refine hK.out _ _ (hTX.of_no) (fun hHeld => ?_)
              clear hK
              refine wpAnyH_ready (rs := [6]) (by kernel_rfl) (by simp) ?_
              refine AllReadyH.cons rfl (fun K hK => ?_) AllReadyH.nil
              rw [if_pos (by kernel_rfl)]
              refine wp_append_run _ _ rfl _ _ rfl rfl r2 ?_
              refine hK.out _ _ (hT2.of_no) (fun hHeld => ?_)
              clear hK
              have zc := ((HRz.out).turn hT2 (fun q => q)).cell 73 _ HC4.out
              have zf := ((HRz.out).turn hT2 (fun q => q)).frozen 73
              refine' wpAnyH_take (i := 10) (v := .slice (some ⟨g2, 0, none⟩) 0 c2) rfl (by kernel_rfl) (by kernel_rfl) (by kernel_rfl) (fun _ _ _ h => h) (Or.inl ⟨by kernel_rfl, fun W hW => ?y58⟩) hHeld ?r58
              · have hcc : ¬ c2 < 0 := by omega
                go_simp
              refine' wpAnyH_take (i := 11) (v := .pointer (some ⟨g3, 73, none⟩)) rfl (by kernel_rfl) (by kernel_rfl) (by kernel_rfl) (fun _ _ _ h => h) (Or.inl ⟨by kernel_rfl, fun W hW => ?y59⟩) hHeld ?r59
              · go_simp
              refine wpAnyH_ready (rs := [12]) (by kernel_rfl) (by simp) ?_
              refine AllReadyH.cons rfl (fun K hK => ?_) AllReadyH.nil
              go_simp
              have TS : Turn (fun k => k = g3) wz (w2.setCell ⟨g3, 73, none⟩ (.slice (some ⟨g2, 0, none⟩) 0 c2)) := (hT2.of_no (S := fun k => k = g3)).setCell (p := ⟨g3, 73, none⟩) (fun _ => rfl) _
              refine hK.out _ _ TS (fun hHeld => ?_)
              clear hK
              refine wpAnyH_done (by kernel_rfl) ?_ _
              go_simp
              go_wp2_with fail
              go_meet
              case rel => exact ⟨rfl, g2, c2, beh_end HO.out (by have := HLz.out; omega) 73 _, by have := HLz.out; omega, TS, (HRz.out.turn hT2 (fun q => q)).set 73 _⟩
            · obtain ⟨v1, w1a, v2, w2, r1, hT1, r2, hT2, hO, g2, c2, rfl, hc2, hg2⟩ := HAB.out
              clear HAA HAB HAC
              have HO := shut hO
              clear hO
              go_simp
              refine hK.out _ _ (((Turn.refl no wz).drew.alloc (.cells #[] 41)).alloc (.cells vt71.cs.toArray 41)).of_no (fun hHeld => ?_)
              clear hK
              refine wpAnyH_ready (rs := [3]) (by kernel_rfl) (by simp) ?_
              refine AllReadyH.cons rfl (fun K hK => ?_) AllReadyH.nil
              rw [if_pos (by kernel_rfl)]
              refine wp_append_run _ _ rfl _ _ rfl rfl r1 ?_
              refine hK.out _ _ (hT1.of_no) (fun hHeld => ?_)
              clear hK
              refine wpAnyH_ready (rs := [6]) (by kernel_rfl) (by simp) ?_
              refine AllReadyH.cons rfl (fun K hK => ?_) AllReadyH.nil
              rw [if_pos (by kernel_rfl)]
              refine wp_append_run _ _ rfl _ _ rfl rfl r2 ?_
              refine hK.out _ _ (hT2.of_no) (fun hHeld => ?_)
              clear hK
              have zc := ((HRz.out).turn hT2 (fun q => q)).cell 73 _ HC4.out
              have zf := ((HRz.out).turn hT2 (fun q => q)).frozen 73
              refine' wpAnyH_take (i := 10) (v := .slice (some ⟨g2, 0, none⟩) 0 c2) rfl (by kernel_rfl) (by kernel_rfl) (by kernel_rfl) (fun _ _ _ h => h) (Or.inl ⟨by kernel_rfl, fun W hW => ?y60⟩) hHeld ?r60
              · have hcc : ¬ c2 < 0 := by omega
                go_simp
              refine' wpAnyH_take (i := 11) (v := .pointer (some ⟨g3, 73, none⟩)) rfl (by kernel_rfl) (by kernel_rfl) (by kernel_rfl) (fun _ _ _ h => h) (Or.inl ⟨by kernel_rfl, fun W hW => ?y61⟩) hHeld ?r61
              · go_simp
              refine wpAnyH_ready (rs := [12]) (by kernel_rfl) (by simp) ?_
              refine AllReadyH.cons rfl (fun K hK => ?_) AllReadyH.nil
              go_simp
              have TS : Turn (fun k => k = g3) wz (w2.setCell ⟨g3, 73, none⟩ (.slice (some ⟨g2, 0, none⟩) 0 c2)) := (hT2.of_no (S := fun k => k = g3)).setCell (p := ⟨g3, 73, none⟩) (fun _ => rfl) _
              refine hK.out _ _ TS (fun hHeld => ?_)
              clear hK
              refine wpAnyH_done (by kernel_rfl) ?_ _
              go_simp
              go_wp2_with fail
              go_meet
              case rel => exact ⟨rfl, g2, c2, beh_end HO.out (by have := HLz.out; omega) 73 _, by have := HLz.out; omega, TS, (HRz.out.turn hT2 (fun q => q)).set 73 _⟩
          · obtain ⟨v1, w1a, v2, w2, r1, hT1, r2, hT2, hO, g2, c2, rfl, hc2, hg2⟩ := HAC.out
            clear HAA HAB HAC
            have HO := shut hO
            clear hO
            go_simp
            refine hK.out _ _ ((Turn.refl no wz).drew.alloc (.cells vt71.cs.toArray 41)).of_no (fun hHeld => ?_)
            clear hK
            refine wpAnyH_ready (rs := [0]) (by kernel_rfl) (by simp) ?_
            refine AllReadyH.cons rfl (fun K hK => ?_) AllReadyH.nil
            go_simp
            refine hK.out _ _ ((((Turn.refl no wz).drew.alloc (.cells vt71.cs.toArray 41)).alloc (.cells #[] 41)).of_no) (fun hHeld => ?_)
            clear hK
            refine wpAnyH_ready (rs := [3]) (by kernel_rfl) (by simp) ?_
            refine AllReadyH.cons rfl (fun K hK => ?_) AllReadyH.nil
            rw [if_pos (by kernel_rfl)]
            refine wp_append_run _ _ rfl _ _ rfl rfl r1 ?_
            refine hK.out _ _ (hT1.of_no) (fun hHeld => ?_)
            clear hK
            refine wpAnyH_ready (rs := [6]) (by kernel_rfl) (by simp) ?_
            refine AllReadyH.cons rfl (fun K hK => ?_) AllReadyH.nil
            rw [if_pos (by kernel_rfl)]
            refine wp_append_run _ _ rfl _ _ rfl rfl r2 ?_
            refine hK.out _ _ (hT2.of_no) (fun hHeld => ?_)
            clear hK
            have zc := ((HRz.out).turn hT2 (fun q => q)).cell 73 _ HC4.out
            have zf := ((HRz.out).turn hT2 (fun q => q)).frozen 73
            refine' wpAnyH_take (i := 10) (v := .slice (some ⟨g2, 0, none⟩) 0 c2) rfl (by kernel_rfl) (by kernel_rfl) (by kernel_rfl) (fun _ _ _ h => h) (Or.inl ⟨by kernel_rfl, fun W hW => ?y62⟩) hHeld ?r62
            · have hcc : ¬ c2 < 0 := by omega
              go_simp
            refine' wpAnyH_take (i := 11) (v := .pointer (some ⟨g3, 73, none⟩)) rfl (by kernel_rfl) (by kernel_rfl) (by kernel_rfl) (fun _ _ _ h => h) (Or.inl ⟨by kernel_rfl, fun W hW => ?y63⟩) hHeld ?r63
            · go_simp
            refine wpAnyH_ready (rs := [12]) (by kernel_rfl) (by simp) ?_
            refine AllReadyH.cons rfl (fun K hK => ?_) AllReadyH.nil
            go_simp
            have TS : Turn (fun k => k = g3) wz (w2.setCell ⟨g3, 73, none⟩ (.slice (some ⟨g2, 0, none⟩) 0 c2)) := (hT2.of_no (S := fun k => k = g3)).setCell (p := ⟨g3, 73, none⟩) (fun _ => rfl) _
            refine hK.out _ _ TS (fun hHeld => ?_)
            clear hK
            refine wpAnyH_done (by kernel_rfl) ?_ _
            go_simp
            go_wp2_with fail
            go_meet
            case rel => exact ⟨rfl, g2, c2, beh_end HO.out (by have := HLz.out; omega) 73 _, by have := HLz.out; omega, TS, (HRz.out.turn hT2 (fun q => q)).set 73 _⟩
        case rest =>
          obtain ⟨rfl, gv, cv, H1⟩ := hcut
          obtain ⟨wv, rfl⟩ : ∃ wv : World, wv = wc := ⟨_, rfl⟩
          have HC := H1.out.2.2.2
          have HM := shut (HMz.out.turn H1.out.2.2.1 (fun x q => by cases q; show ¬ g = g3; have := HGx.out; omega))
          have HA := shut (HAz.out.turn H1.out.2.2.1 (by have := HGa.out; omega))
          have HBB := shut (HBz.out.turn H1.out.2.2.1 (by have := HGb.out; omega))
          have HV := shut H1.out.1
          have HGv := shut H1.out.2.1
          obtain ⟨C, hC⟩ : ∃ C, ((((B.setIfInBounds 2 (.slice (some ⟨g, 0, none⟩) n c)).setIfInBounds 37 (.slice (some ⟨ga, 0, none⟩) 0 ca)).setIfInBounds 72 (.slice (some ⟨gb, 0, none⟩) 0 cb)).setIfInBounds 73 (.slice (some ⟨gv, 0, none⟩) 0 cv)) = C := ⟨_, rfl⟩
          have hone : C.all (·.oneCell') = true := by rw [← hC]; exact set_one (set_one (set_one (set_one HONE.out rfl) rfl) rfl) rfl
          have hsz : C.size = 75 := by rw [← hC]; simp [HB.out]
          have hi : (Try.prog.info? 35).map (·.size) = some C.size := by rw [hsz]; exact size35
          have hold : ZC.size = C.size := by rw [hsz]; exact HZC.out
          obtain ⟨_, hZ, hT⟩ := HKz.out wv H1.out.2.2.1
          rw [hC] at HC
          have HCC := shut hC
          have HT := shut hT
          clear hsz hC hT H1 HKz HRz HC4 HMz HAz HBz HLz HONE HB HI35 HZB HS0
          go_wp2_with (first | (refine wpList_load_row rfl 35 (.tmp 3) rfl g3 rfl 35 C _ _ HC Try.underlying35 rfl hi ?_) | (refine wpList_store_anyN rfl rfl 35 (.tmp 2) (.tmp 62) rfl (w.heap.size + 1) C rfl rfl 35 ZC hZ hi hold hone ?_; intro w9 R9 T9))
          have q1 := HG1.out
          have q2 := HGx.out
          have q3 := HGa.out
          have q4 := HGb.out
          have q5 := HGv.out
          refine ⟨rfl, _, results_cell_row (g := w.heap.size + 1) (cs := C) (t := 35) rfl _ _ _ _ rfl R9 Try.underlying35 rfl hi, g, c, ga, ca, gb, cb, gv, cv, ?_, HM.out.turn T9 (fun x q => ?_), HA.out.turn T9 (by omega), HBB.out.turn T9 (by omega), HV.out.turn T9 (by omega), HT.out.trans T9 (fun i hi q => by omega)⟩
          · rw [← HCC.out]
          · cases q
            show ¬ g = _
            omega
end Go.Proofs.Ytmfphlagpifkaaa
