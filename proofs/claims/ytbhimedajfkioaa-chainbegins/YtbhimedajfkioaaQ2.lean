/- ownBlock. -/
import Derived.Test.YtbhimedajfkioaaQ1
namespace Go.Proofs.Ytbhimedajfkioaa
open Go.RowKit
set_option linter.unusedVariables false

theorem size38 : (Try.prog.info? 38).map (·.size) = some 265 := by kernel_rfl
theorem zero38 : Try.zeroCells38.size = 265 := by kernel_rfl
/-- The mark behind a list. -/
def mk71 : Mk := ⟨-71, 0, fun _ => 0⟩
theorem mk71_ok : mk71.ok := by simp [mk71, Mk.ok]
def tx71 : Array Value := #[.int .i64 (-71), .int .u64 0, .int .u64 0, .int .u64 0, .int .u64 0, .int .u64 0, .int .u8 0, .int .u8 0, .int .u8 0, .int .u8 0, .int .u8 0, .int .u8 0, .int .u8 0, .int .u8 0, .int .u8 0, .int .u8 0, .int .u8 0, .int .u8 0, .int .u8 0, .int .u8 0, .int .u8 0, .int .u8 0]
def vt71 : List Value := .int .i64 (-71) :: .int .u64 0 :: .int .i64 0 :: (List.replicate 32 (.int .u8 0) ++ .int .u64 0 :: .int .u64 0 :: List.replicate 16 (.int .u8 0))
def vt0 : List Value := .int .i64 0 :: .int .u64 0 :: .int .i64 0 :: (List.replicate 32 (.int .u8 0) ++ .int .u64 0 :: .int .u64 0 :: List.replicate 16 (.int .u8 0))
def ev71 : Array Value := (vt71 ++ vt0).toArray
theorem tx71_one : ∀ u ∈ tx71.toList, u.oneCell' = true := by
  have : tx71.toList.all (·.oneCell') = true := by kernel_rfl
  exact List.all_eq_true.1 this
theorem ev71_one : ∀ u ∈ ev71.toList, u.oneCell' = true := by
  have : ev71.toList.all (·.oneCell') = true := by kernel_rfl
  exact List.all_eq_true.1 this
theorem info73 : (Try.prog.info? 73).map (fun i => (i.zero, i.size, i.bytes)) = some (some (.agg (tx71.setIfInBounds 0 (.int .i64 0))), 22, 64) := by kernel_rfl
theorem info77 : (Try.prog.info? 77).map (fun i => (i.zero, i.size, i.bytes)) = some (some (.agg (vt0 ++ vt0).toArray), 106, 176) := by kernel_rfl
theorem set_one {C : Array Value} {j : Nat} {u : Value} (h : C.all (·.oneCell') = true) (hu : u.oneCell' = true) : (C.setIfInBounds j u).all (·.oneCell') = true := by
  rw [Array.all_eq_true] at h ⊢
  intro i hi
  rw [Array.size_setIfInBounds] at hi
  rw [Array.getElem_setIfInBounds hi]
  split
  · exact hu
  · exact h i hi
theorem KsAt.srcAny {w : World} {a : Option Addr} {cap : Nat} {l : List Mk} (h : KsAt w a cap l) : Src Try.prog 18 28 (.slice a l.length cap) l.length (mkF l) w := by
  cases a with
  | none =>
    have : l = [] := by
      cases l with
      | nil => rfl
      | cons m r =>
        obtain ⟨b, off, e, _⟩ := h.cells 0 m rfl
        cases e
    subst this
    exact Src.ofNil w Try.underlying28 cap
  | some a => exact h.src
section
variable {P : Program} {ops : Array Oper} {rest : List Oper} {o : Oper} {a : Act} {w : World} {Q : Exit → Act → World → Prop}
theorem wpList_store_anyN (hgd : o.guard = none) (hd : o.dst = none) (ty : TypeId) (x y : Operand) (ho : o.op = .store ty x y)
    (g : Nat) (cells : Array Value) (hx : a.eval x = .pointer (some ⟨g, 0, none⟩)) (hy : a.eval y = .agg cells)
    (t : TypeId) (old : Array Value) (hg : Row w g old t) (hi : (P.info? ty).map (·.size) = some cells.size)
    (hold : old.size = cells.size) (h1 : cells.all (·.oneCell') = true)
    (h : ∀ w', Row w' g cells t → Turn (fun k => k = g) w w' → wpList P ops Q rest a w') : wpList P ops Q (o :: rest) a w :=
  wpList_store_any hgd ty x y ho g cells hx hy t old hg hi hold h1 (fun w' r t => by rw [hd]; exact h w' r t)
end
theorem mkF_append (a b : List Mk) : mkF (a ++ b) = mkF a ++ mkF b := by simp [mkF]
theorem OwnN.ksAt {w : World} {g cap : Nat} {n : Nat} {l : List Mk} (h : OwnN w 50 18 (.slice (some ⟨g, 0, none⟩) n cap) n (mkF l)) (hn : n = l.length) (hok : ∀ m ∈ l, m.ok) : KsAt w (some ⟨g, 0, none⟩) cap l := by
  subst hn
  obtain ⟨a, c, e, k⟩ := h.ks hok
  cases e
  exact k
theorem own_end {w2 : World} {g2 c2 n g3 : Nat} {l : List Mk} (hO : OwnN w2 50 18 (.slice (some ⟨g2, 0, none⟩) (n + 1) c2) (n + 1) (mkF l ++ (mkA mk71).toList)) (hn : l.length = n) (hok : ∀ m ∈ l, m.ok) (hne : ¬ g2 = g3) (j : Nat) (u : Value) : KsAt (w2.setCell ⟨g3, j, none⟩ u) (some ⟨g2, 0, none⟩) c2 (l ++ [mk71]) := by
  have e : mkF l ++ (mkA mk71).toList = mkF (l ++ [mk71]) := by rw [mkF_append]; rfl
  rw [e] at hO
  have k := hO.ksAt (by simp [hn]) (fun m hm => (List.mem_append.1 hm).elim (hok m) (fun q => by rw [List.mem_singleton.1 q]; exact mk71_ok))
  exact k.turn ((Turn.refl (fun k => k = g3) w2).setCell (p := ⟨g3, j, none⟩) (fun _ => rfl) u) (fun x q => by cases q; exact hne)

set_option maxRecDepth 100000 in
set_option maxHeartbeats 40000000 in
theorem ownB6 (w : World) (B : Array Value) (hB : B.size = 265) (h1 : B[228]? = some (.slice none 0 0)) (h2 : B[229]? = some (.slice none 0 0)) (a : Option Addr) (cp : Nat) (l : List Mk) (h3 : B[264]? = some (.slice a l.length cp)) (hone : B.all (·.oneCell') = true) (hk : KsAt w a cp l) (hb : l.length * 32 ≤ 140737488351232) :
    Calls Try.prog 6 #[.agg B] w fun e w' => ∃ s1 s2 g cap, e = .returned (.agg (((B.setIfInBounds 228 s1).setIfInBounds 229 s2).setIfInBounds 264 (.slice (some ⟨g, 0, none⟩) l.length cap))) ∧ KsAt w' (some ⟨g, 0, none⟩) cap (l ++ [mk71]) ∧ Turn no w w' := by
  have hi38 : (Try.prog.info? 38).map (·.size) = some B.size := by rw [hB]; exact size38
  obtain ⟨w0, hw0⟩ : ∃ w0, (w.alloc (.cells B 38)).alloc (.cells Try.zeroCells38 38) = w0 := ⟨_, rfl⟩
  have T0 : Turn no w w0 := by rw [← hw0]; exact ((Turn.refl no w).alloc _).alloc _
  have R0 : Row w0 w.heap.size B 38 := by rw [← hw0]; exact (Row.new w _ 38).alloc _
  have Z0 : Row w0 (w.heap.size + 1) Try.zeroCells38 38 := by rw [← hw0]; exact Row.newAt _ _ _ _ (by simp)
  have TA : Turn no w0 (w0.alloc (.cells Try.zeroCells38 38)) := (Turn.refl no w0).alloc _
  have RN := Row.new w0 Try.zeroCells38 38
  have HZB : Shut (Try.zeroCells38.size = B.size) := by show _ = _; rw [hB]; exact zero38
  have HS0 : Shut (w0.heap.size = w.heap.size + 2) := by show _ = _; rw [← hw0]; simp
  have HB := shut hB
  have HI38 := shut hi38
  have HONE := shut hone
  have HB1 := shut h1
  have HB2 := shut h2
  have HB3 := shut h3
  have HKS := shut hk
  have HBB := shut hb
  clear h1 h2 h3 hone hB hk hb
  go_enter Try.func6, Try.ntmps6
  go_upto_region 1 with fail
  try rw [hw0]
  go_upto_region 2 with (first | (refine wpList_load_row rfl 38 (.tmp 1) rfl w.heap.size rfl 38 B _ _ R0 Try.underlying38 rfl hi38 ?_) | (refine wpList_store_anyN rfl rfl 38 (.tmp 3) (.tmp 4) rfl w0.heap.size B rfl rfl 38 Try.zeroCells38 RN hi38 HZB.out HONE.out ?_; intro w1 R1 T1))
  have HK : Shut (∀ W, Turn (fun k => k = w0.heap.size) w1 W → Row W w.heap.size B 38 ∧ Row W (w.heap.size + 1) Try.zeroCells38 38 ∧ Turn no w W) := fun W t => by
    have s := HS0.out
    have tt : Turn (fun k => k = w0.heap.size) w0 W := TA.of_no.trans (T1.trans t (fun _ _ e => e)) (fun _ _ e => e)
    exact ⟨R0.turn tt (fun e => by omega), Z0.turn tt (fun e => by omega), T0.of_no.trans tt (fun i hi e => by have := T0.size; omega)⟩
  have HR1 := shut R1
  clear R0 Z0 RN TA T1 T0 R1 hi38 hw0
  generalize hg3 : w0.heap.size = g3 at *
  clear hg3
  go_cut [3] from 5 to 45 (fun c wx => c = .pointer (some ⟨g3, 0, none⟩) ∧ ∃ s1 : Value, Shut (s1.oneCell' = true ∧ Turn (fun k => k = g3) w1 wx ∧ Row wx g3 (B.setIfInBounds 228 s1) 38))
  case first =>
    have hap := app_a Try.underlying35 info73 rfl (by decide) w1 (vs := .slice none 0 0) (n := 0) (news := []) (fun W _ => Src.ofNil W Try.underlying35 0) (X := tx71) rfl tx71_one (by decide) (by decide)
    have HAB := shut (app_b Try.underlying35 info73 rfl (by decide) w1 (vs := .slice none 0 0) (n := 0) (news := []) (fun W _ => Src.ofNil W Try.underlying35 0) (X := tx71) rfl tx71_one (by decide) (by decide))
    have HAC := shut (app_c Try.underlying35 info73 rfl (by decide) w1 (vs := .slice none 0 0) (n := 0) (news := []) (fun W _ => Src.ofNil W Try.underlying35 0) (X := tx71) rfl tx71_one (by decide) (by decide))
    have HAA := shut hap
    clear hap
    refine wp_region_held_drew (S := fun W => Turn (fun k => k = g3) w1 W) (by kernel_rfl) (Turn.refl _ w1).drew (fun hHeld => ?_)
    refine' wpAnyH_take (i := 1) (v := .pointer (some ⟨w.heap.size, 228, none⟩)) rfl (by kernel_rfl) (by kernel_rfl) (by kernel_rfl) (fun _ _ _ h => h) (Or.inl ⟨by kernel_rfl, fun W hW => ?y1⟩) hHeld ?r1
    · go_simp
    refine' wpAnyH_take (i := 2) (v := .slice none 0 0) rfl (by kernel_rfl) (by kernel_rfl) (by kernel_rfl) (fun _ _ _ h => h) (Or.inl ⟨by kernel_rfl, fun W hW => ?y2⟩) hHeld ?r2
    · have z := (HK.out W hW).1.cell 228 _ HB1.out
      go_simp
    refine' wpAnyH_take (i := 4) (v := .agg tx71) rfl (by kernel_rfl) (by kernel_rfl) (by kernel_rfl) (fun _ _ _ h => h) (Or.inl ⟨by kernel_rfl, fun W hW => ?y3⟩) hHeld ?r3
    · go_simp
      rfl
    refine' wpAnyH_take (i := 7) (v := .pointer (some ⟨w.heap.size, 228, none⟩)) rfl (by kernel_rfl) (by kernel_rfl) (by kernel_rfl) (fun _ _ _ h => h) (Or.inl ⟨by kernel_rfl, fun W hW => ?y4⟩) hHeld ?r4
    · go_simp
    refine' wpAnyH_take (i := 8) (v := .slice none 0 0) rfl (by kernel_rfl) (by kernel_rfl) (by kernel_rfl) (fun _ _ _ h => h) (Or.inl ⟨by kernel_rfl, fun W hW => ?y5⟩) hHeld ?r5
    · have z := (HK.out W hW).1.cell 228 _ HB1.out
      go_simp
    refine' wpAnyH_take (i := 9) (v := .int .i64 0) rfl (by kernel_rfl) (by kernel_rfl) (by kernel_rfl) (fun _ _ _ h => h) (Or.inl ⟨by kernel_rfl, fun W hW => ?y6⟩) hHeld ?r6
    · go_simp
    refine wpAnyH_ready (rs := [0, 5]) (by kernel_rfl) (by simp) ?_
    refine AllReadyH.cons rfl (fun K hK => ?_) (AllReadyH.cons rfl (fun K hK => ?_) AllReadyH.nil)
    · go_simp
      refine hK.out _ _ ((Turn.refl no w1).drew.alloc (.cells #[] 73)).of_no (fun hHeld => ?_)
      clear hK
      refine wpAnyH_ready (rs := [3, 5]) (by kernel_rfl) (by simp) ?_
      refine AllReadyH.cons rfl (fun K hK => ?_) (AllReadyH.cons rfl (fun K hK => ?_) AllReadyH.nil)
      · obtain ⟨v1, w1a, v2, w2, r1, hT1, r2, hTX, hT2, hO, g2, c2, rfl, hc2, hg2⟩ := HAA.out
        clear HAA HAB HAC
        have HO := shut hO
        clear hO
        rw [if_pos (by rfl)]
        refine wp_append_run _ _ rfl _ _ rfl rfl r1 ?_
        refine hK.out _ _ hT1.of_no (fun hHeld => ?_)
        clear hK r1
        refine wpAnyH_ready (rs := [5]) (by kernel_rfl) (by simp) ?_
        refine AllReadyH.cons rfl (fun K hK => ?_) AllReadyH.nil
        go_simp
        refine hK.out _ _ (hTX.of_no) (fun hHeld => ?_)
        clear hK
        refine wpAnyH_ready (rs := [6]) (by kernel_rfl) (by simp) ?_
        refine AllReadyH.cons rfl (fun K hK => ?_) AllReadyH.nil
        rw [if_pos (by rfl)]
        refine wp_append_run _ _ rfl _ _ rfl rfl r2 ?_
        refine hK.out _ _ (hT2.of_no) (fun hHeld => ?_)
        clear hK
        have zc := ((HR1.out).turn hT2 (fun q => q)).cell 228 _ HB1.out
        have zf := ((HR1.out).turn hT2 (fun q => q)).frozen 228
        refine' wpAnyH_take (i := 10) (v := .slice (some ⟨g2, 0, none⟩) 0 c2) rfl (by kernel_rfl) (by kernel_rfl) (by kernel_rfl) (fun _ _ _ h => h) (Or.inl ⟨by kernel_rfl, fun W hW => ?y7⟩) hHeld ?r7
        · have hcc : ¬ c2 < 0 := by omega
          go_simp
        refine' wpAnyH_take (i := 11) (v := .pointer (some ⟨g3, 228, none⟩)) rfl (by kernel_rfl) (by kernel_rfl) (by kernel_rfl) (fun _ _ _ h => h) (Or.inl ⟨by kernel_rfl, fun W hW => ?y8⟩) hHeld ?r8
        · go_simp
        refine wpAnyH_ready (rs := [12]) (by kernel_rfl) (by simp) ?_
        refine AllReadyH.cons rfl (fun K hK => ?_) AllReadyH.nil
        go_simp
        have TS : Turn (fun k => k = g3) w1 (w2.setCell ⟨g3, 228, none⟩ (.slice (some ⟨g2, 0, none⟩) 0 c2)) := (hT2.of_no (S := fun k => k = g3)).setCell (p := ⟨g3, 228, none⟩) (fun _ => rfl) _
        refine hK.out _ _ TS (fun hHeld => ?_)
        clear hK
        refine wpAnyH_done (by kernel_rfl) ?_ _
        go_simp
        go_wp2_with fail
        go_meet
        case rel => exact ⟨rfl, _, rfl, TS, (HR1.out.turn hT2 (fun q => q)).set 228 _⟩
      · obtain ⟨v1, w1a, v2, w2, r1, hT1, r2, hT2, hO, g2, c2, rfl, hc2, hg2⟩ := HAB.out
        clear HAA HAB HAC
        have HO := shut hO
        clear hO
        go_simp
        refine hK.out _ _ (((Turn.refl no w1).drew.alloc (.cells #[] 73)).alloc (.cells tx71 73)).of_no (fun hHeld => ?_)
        clear hK
        refine wpAnyH_ready (rs := [3]) (by kernel_rfl) (by simp) ?_
        refine AllReadyH.cons rfl (fun K hK => ?_) AllReadyH.nil
        rw [if_pos (by rfl)]
        refine wp_append_run _ _ rfl _ _ rfl rfl r1 ?_
        refine hK.out _ _ (hT1.of_no) (fun hHeld => ?_)
        clear hK
        refine wpAnyH_ready (rs := [6]) (by kernel_rfl) (by simp) ?_
        refine AllReadyH.cons rfl (fun K hK => ?_) AllReadyH.nil
        rw [if_pos (by rfl)]
        refine wp_append_run _ _ rfl _ _ rfl rfl r2 ?_
        refine hK.out _ _ (hT2.of_no) (fun hHeld => ?_)
        clear hK
        have zc := ((HR1.out).turn hT2 (fun q => q)).cell 228 _ HB1.out
        have zf := ((HR1.out).turn hT2 (fun q => q)).frozen 228
        refine' wpAnyH_take (i := 10) (v := .slice (some ⟨g2, 0, none⟩) 0 c2) rfl (by kernel_rfl) (by kernel_rfl) (by kernel_rfl) (fun _ _ _ h => h) (Or.inl ⟨by kernel_rfl, fun W hW => ?y9⟩) hHeld ?r9
        · have hcc : ¬ c2 < 0 := by omega
          go_simp
        refine' wpAnyH_take (i := 11) (v := .pointer (some ⟨g3, 228, none⟩)) rfl (by kernel_rfl) (by kernel_rfl) (by kernel_rfl) (fun _ _ _ h => h) (Or.inl ⟨by kernel_rfl, fun W hW => ?y10⟩) hHeld ?r10
        · go_simp
        refine wpAnyH_ready (rs := [12]) (by kernel_rfl) (by simp) ?_
        refine AllReadyH.cons rfl (fun K hK => ?_) AllReadyH.nil
        go_simp
        have TS : Turn (fun k => k = g3) w1 (w2.setCell ⟨g3, 228, none⟩ (.slice (some ⟨g2, 0, none⟩) 0 c2)) := (hT2.of_no (S := fun k => k = g3)).setCell (p := ⟨g3, 228, none⟩) (fun _ => rfl) _
        refine hK.out _ _ TS (fun hHeld => ?_)
        clear hK
        refine wpAnyH_done (by kernel_rfl) ?_ _
        go_simp
        go_wp2_with fail
        go_meet
        case rel => exact ⟨rfl, _, rfl, TS, (HR1.out.turn hT2 (fun q => q)).set 228 _⟩
    · obtain ⟨v1, w1a, v2, w2, r1, hT1, r2, hT2, hO, g2, c2, rfl, hc2, hg2⟩ := HAC.out
      clear HAA HAB HAC
      have HO := shut hO
      clear hO
      go_simp
      refine hK.out _ _ ((Turn.refl no w1).drew.alloc (.cells tx71 73)).of_no (fun hHeld => ?_)
      clear hK
      refine wpAnyH_ready (rs := [0]) (by kernel_rfl) (by simp) ?_
      refine AllReadyH.cons rfl (fun K hK => ?_) AllReadyH.nil
      go_simp
      refine hK.out _ _ ((((Turn.refl no w1).drew.alloc (.cells tx71 73)).alloc (.cells #[] 73)).of_no) (fun hHeld => ?_)
      clear hK
      refine wpAnyH_ready (rs := [3]) (by kernel_rfl) (by simp) ?_
      refine AllReadyH.cons rfl (fun K hK => ?_) AllReadyH.nil
      rw [if_pos (by rfl)]
      refine wp_append_run _ _ rfl _ _ rfl rfl r1 ?_
      refine hK.out _ _ (hT1.of_no) (fun hHeld => ?_)
      clear hK
      refine wpAnyH_ready (rs := [6]) (by kernel_rfl) (by simp) ?_
      refine AllReadyH.cons rfl (fun K hK => ?_) AllReadyH.nil
      rw [if_pos (by rfl)]
      refine wp_append_run _ _ rfl _ _ rfl rfl r2 ?_
      refine hK.out _ _ (hT2.of_no) (fun hHeld => ?_)
      clear hK
      have zc := ((HR1.out).turn hT2 (fun q => q)).cell 228 _ HB1.out
      have zf := ((HR1.out).turn hT2 (fun q => q)).frozen 228
      refine' wpAnyH_take (i := 10) (v := .slice (some ⟨g2, 0, none⟩) 0 c2) rfl (by kernel_rfl) (by kernel_rfl) (by kernel_rfl) (fun _ _ _ h => h) (Or.inl ⟨by kernel_rfl, fun W hW => ?y11⟩) hHeld ?r11
      · have hcc : ¬ c2 < 0 := by omega
        go_simp
      refine' wpAnyH_take (i := 11) (v := .pointer (some ⟨g3, 228, none⟩)) rfl (by kernel_rfl) (by kernel_rfl) (by kernel_rfl) (fun _ _ _ h => h) (Or.inl ⟨by kernel_rfl, fun W hW => ?y12⟩) hHeld ?r12
      · go_simp
      refine wpAnyH_ready (rs := [12]) (by kernel_rfl) (by simp) ?_
      refine AllReadyH.cons rfl (fun K hK => ?_) AllReadyH.nil
      go_simp
      have TS : Turn (fun k => k = g3) w1 (w2.setCell ⟨g3, 228, none⟩ (.slice (some ⟨g2, 0, none⟩) 0 c2)) := (hT2.of_no (S := fun k => k = g3)).setCell (p := ⟨g3, 228, none⟩) (fun _ => rfl) _
      refine hK.out _ _ TS (fun hHeld => ?_)
      clear hK
      refine wpAnyH_done (by kernel_rfl) ?_ _
      go_simp
      go_wp2_with fail
      go_meet
      case rel => exact ⟨rfl, _, rfl, TS, (HR1.out.turn hT2 (fun q => q)).set 228 _⟩
  case rest =>
    obtain ⟨rfl, s1, H1⟩ := hcut
    obtain ⟨wx, rfl⟩ : ∃ wx : World, wx = wc := ⟨_, rfl⟩
    have HK2 : Shut (∀ W, Turn (fun k => k = g3) wx W → Row W w.heap.size B 38 ∧ Row W (w.heap.size + 1) Try.zeroCells38 38 ∧ Turn no w W) := fun W t => HK.out W (H1.out.2.1.trans t (fun _ _ e => e))
    have HR2 := shut H1.out.2.2
    have HS1 := shut H1.out.1
    have HC2 : Shut ((B.setIfInBounds 228 s1)[229]? = some (.slice none 0 0)) := by show _ = _; rw [Array.getElem?_setIfInBounds_ne (by decide)]; exact HB2.out
    clear HK HR1 H1 HB1
    go_upto_region 3 with fail
    go_cut [3] from 5 to 45 (fun c wy => c = .pointer (some ⟨g3, 0, none⟩) ∧ ∃ s2 : Value, Shut (s2.oneCell' = true ∧ Turn (fun k => k = g3) wx wy ∧ Row wy g3 ((B.setIfInBounds 228 s1).setIfInBounds 229 s2) 38))
    case first =>
      have hap := app_a Try.underlying36 info77 rfl (by decide) wx (vs := .slice none 0 0) (n := 0) (news := []) (fun W _ => Src.ofNil W Try.underlying36 0) (X := ev71) rfl ev71_one (by decide) (by decide)
      have HAB := shut (app_b Try.underlying36 info77 rfl (by decide) wx (vs := .slice none 0 0) (n := 0) (news := []) (fun W _ => Src.ofNil W Try.underlying36 0) (X := ev71) rfl ev71_one (by decide) (by decide))
      have HAC := shut (app_c Try.underlying36 info77 rfl (by decide) wx (vs := .slice none 0 0) (n := 0) (news := []) (fun W _ => Src.ofNil W Try.underlying36 0) (X := ev71) rfl ev71_one (by decide) (by decide))
      have HAA := shut hap
      clear hap
      refine wp_region_held_drew (S := fun W => Turn (fun k => k = g3) wx W) (by kernel_rfl) (Turn.refl _ wx).drew (fun hHeld => ?_)
      refine' wpAnyH_take (i := 1) (v := .pointer (some ⟨w.heap.size, 229, none⟩)) rfl (by kernel_rfl) (by kernel_rfl) (by kernel_rfl) (fun _ _ _ h => h) (Or.inl ⟨by kernel_rfl, fun W hW => ?y13⟩) hHeld ?r13
      · go_simp
      refine' wpAnyH_take (i := 2) (v := .slice none 0 0) rfl (by kernel_rfl) (by kernel_rfl) (by kernel_rfl) (fun _ _ _ h => h) (Or.inl ⟨by kernel_rfl, fun W hW => ?y14⟩) hHeld ?r14
      · have z := (HK2.out W hW).1.cell 229 _ HB2.out
        go_simp
      refine' wpAnyH_take (i := 4) (v := .agg vt71.toArray) rfl (by kernel_rfl) (by kernel_rfl) (by kernel_rfl) (fun _ _ _ h => h) (Or.inl ⟨by kernel_rfl, fun W hW => ?y15⟩) hHeld ?r15
      · go_simp
        rfl
      refine' wpAnyH_take (i := 5) (v := .agg ev71) rfl (by kernel_rfl) (by kernel_rfl) (by kernel_rfl) (fun _ _ _ h => h) (Or.inl ⟨by kernel_rfl, fun W hW => ?y16⟩) hHeld ?r16
      · go_simp
        rfl
      refine' wpAnyH_take (i := 8) (v := .pointer (some ⟨w.heap.size, 229, none⟩)) rfl (by kernel_rfl) (by kernel_rfl) (by kernel_rfl) (fun _ _ _ h => h) (Or.inl ⟨by kernel_rfl, fun W hW => ?y17⟩) hHeld ?r17
      · go_simp
      refine' wpAnyH_take (i := 9) (v := .slice none 0 0) rfl (by kernel_rfl) (by kernel_rfl) (by kernel_rfl) (fun _ _ _ h => h) (Or.inl ⟨by kernel_rfl, fun W hW => ?y18⟩) hHeld ?r18
      · have z := (HK2.out W hW).1.cell 229 _ HB2.out
        go_simp
      refine' wpAnyH_take (i := 10) (v := .int .i64 0) rfl (by kernel_rfl) (by kernel_rfl) (by kernel_rfl) (fun _ _ _ h => h) (Or.inl ⟨by kernel_rfl, fun W hW => ?y19⟩) hHeld ?r19
      · go_simp
      refine wpAnyH_ready (rs := [0, 6]) (by kernel_rfl) (by simp) ?_
      refine AllReadyH.cons rfl (fun K hK => ?_) (AllReadyH.cons rfl (fun K hK => ?_) AllReadyH.nil)
      · go_simp
        refine hK.out _ _ ((Turn.refl no wx).drew.alloc (.cells #[] 77)).of_no (fun hHeld => ?_)
        clear hK
        refine wpAnyH_ready (rs := [3, 6]) (by kernel_rfl) (by simp) ?_
        refine AllReadyH.cons rfl (fun K hK => ?_) (AllReadyH.cons rfl (fun K hK => ?_) AllReadyH.nil)
        · obtain ⟨v1, w1a, v2, w2, r1, hT1, r2, hTX, hT2, hO, g2, c2, rfl, hc2, hg2⟩ := HAA.out
          clear HAA HAB HAC
          have HO := shut hO
          clear hO
          rw [if_pos (by rfl)]
          refine wp_append_run _ _ rfl _ _ rfl rfl r1 ?_
          refine hK.out _ _ hT1.of_no (fun hHeld => ?_)
          clear hK r1
          refine wpAnyH_ready (rs := [6]) (by kernel_rfl) (by simp) ?_
          refine AllReadyH.cons rfl (fun K hK => ?_) AllReadyH.nil
          go_simp
          refine hK.out _ _ (hTX.of_no) (fun hHeld => ?_)
          clear hK
          refine wpAnyH_ready (rs := [7]) (by kernel_rfl) (by simp) ?_
          refine AllReadyH.cons rfl (fun K hK => ?_) AllReadyH.nil
          rw [if_pos (by rfl)]
          refine wp_append_run _ _ rfl _ _ rfl rfl r2 ?_
          refine hK.out _ _ (hT2.of_no) (fun hHeld => ?_)
          clear hK
          have zc := ((HR2.out).turn hT2 (fun q => q)).cell 229 _ HC2.out
          have zf := ((HR2.out).turn hT2 (fun q => q)).frozen 229
          refine' wpAnyH_take (i := 11) (v := .slice (some ⟨g2, 0, none⟩) 0 c2) rfl (by kernel_rfl) (by kernel_rfl) (by kernel_rfl) (fun _ _ _ h => h) (Or.inl ⟨by kernel_rfl, fun W hW => ?y20⟩) hHeld ?r20
          · have hcc : ¬ c2 < 0 := by omega
            go_simp
          refine' wpAnyH_take (i := 12) (v := .pointer (some ⟨g3, 229, none⟩)) rfl (by kernel_rfl) (by kernel_rfl) (by kernel_rfl) (fun _ _ _ h => h) (Or.inl ⟨by kernel_rfl, fun W hW => ?y21⟩) hHeld ?r21
          · go_simp
          refine wpAnyH_ready (rs := [13]) (by kernel_rfl) (by simp) ?_
          refine AllReadyH.cons rfl (fun K hK => ?_) AllReadyH.nil
          go_simp
          have TS : Turn (fun k => k = g3) wx (w2.setCell ⟨g3, 229, none⟩ (.slice (some ⟨g2, 0, none⟩) 0 c2)) := (hT2.of_no (S := fun k => k = g3)).setCell (p := ⟨g3, 229, none⟩) (fun _ => rfl) _
          refine hK.out _ _ TS (fun hHeld => ?_)
          clear hK
          refine wpAnyH_done (by kernel_rfl) ?_ _
          go_simp
          go_wp2_with fail
          go_meet
          case rel => exact ⟨rfl, _, rfl, TS, (HR2.out.turn hT2 (fun q => q)).set 229 _⟩
        · obtain ⟨v1, w1a, v2, w2, r1, hT1, r2, hT2, hO, g2, c2, rfl, hc2, hg2⟩ := HAB.out
          clear HAA HAB HAC
          have HO := shut hO
          clear hO
          go_simp
          refine hK.out _ _ (((Turn.refl no wx).drew.alloc (.cells #[] 77)).alloc (.cells ev71 77)).of_no (fun hHeld => ?_)
          clear hK
          refine wpAnyH_ready (rs := [3]) (by kernel_rfl) (by simp) ?_
          refine AllReadyH.cons rfl (fun K hK => ?_) AllReadyH.nil
          rw [if_pos (by rfl)]
          refine wp_append_run _ _ rfl _ _ rfl rfl r1 ?_
          refine hK.out _ _ (hT1.of_no) (fun hHeld => ?_)
          clear hK
          refine wpAnyH_ready (rs := [7]) (by kernel_rfl) (by simp) ?_
          refine AllReadyH.cons rfl (fun K hK => ?_) AllReadyH.nil
          rw [if_pos (by rfl)]
          refine wp_append_run _ _ rfl _ _ rfl rfl r2 ?_
          refine hK.out _ _ (hT2.of_no) (fun hHeld => ?_)
          clear hK
          have zc := ((HR2.out).turn hT2 (fun q => q)).cell 229 _ HC2.out
          have zf := ((HR2.out).turn hT2 (fun q => q)).frozen 229
          refine' wpAnyH_take (i := 11) (v := .slice (some ⟨g2, 0, none⟩) 0 c2) rfl (by kernel_rfl) (by kernel_rfl) (by kernel_rfl) (fun _ _ _ h => h) (Or.inl ⟨by kernel_rfl, fun W hW => ?y22⟩) hHeld ?r22
          · have hcc : ¬ c2 < 0 := by omega
            go_simp
          refine' wpAnyH_take (i := 12) (v := .pointer (some ⟨g3, 229, none⟩)) rfl (by kernel_rfl) (by kernel_rfl) (by kernel_rfl) (fun _ _ _ h => h) (Or.inl ⟨by kernel_rfl, fun W hW => ?y23⟩) hHeld ?r23
          · go_simp
          refine wpAnyH_ready (rs := [13]) (by kernel_rfl) (by simp) ?_
          refine AllReadyH.cons rfl (fun K hK => ?_) AllReadyH.nil
          go_simp
          have TS : Turn (fun k => k = g3) wx (w2.setCell ⟨g3, 229, none⟩ (.slice (some ⟨g2, 0, none⟩) 0 c2)) := (hT2.of_no (S := fun k => k = g3)).setCell (p := ⟨g3, 229, none⟩) (fun _ => rfl) _
          refine hK.out _ _ TS (fun hHeld => ?_)
          clear hK
          refine wpAnyH_done (by kernel_rfl) ?_ _
          go_simp
          go_wp2_with fail
          go_meet
          case rel => exact ⟨rfl, _, rfl, TS, (HR2.out.turn hT2 (fun q => q)).set 229 _⟩
      · obtain ⟨v1, w1a, v2, w2, r1, hT1, r2, hT2, hO, g2, c2, rfl, hc2, hg2⟩ := HAC.out
        clear HAA HAB HAC
        have HO := shut hO
        clear hO
        go_simp
        refine hK.out _ _ ((Turn.refl no wx).drew.alloc (.cells ev71 77)).of_no (fun hHeld => ?_)
        clear hK
        refine wpAnyH_ready (rs := [0]) (by kernel_rfl) (by simp) ?_
        refine AllReadyH.cons rfl (fun K hK => ?_) AllReadyH.nil
        go_simp
        refine hK.out _ _ ((((Turn.refl no wx).drew.alloc (.cells ev71 77)).alloc (.cells #[] 77)).of_no) (fun hHeld => ?_)
        clear hK
        refine wpAnyH_ready (rs := [3]) (by kernel_rfl) (by simp) ?_
        refine AllReadyH.cons rfl (fun K hK => ?_) AllReadyH.nil
        rw [if_pos (by rfl)]
        refine wp_append_run _ _ rfl _ _ rfl rfl r1 ?_
        refine hK.out _ _ (hT1.of_no) (fun hHeld => ?_)
        clear hK
        refine wpAnyH_ready (rs := [7]) (by kernel_rfl) (by simp) ?_
        refine AllReadyH.cons rfl (fun K hK => ?_) AllReadyH.nil
        rw [if_pos (by rfl)]
        refine wp_append_run _ _ rfl _ _ rfl rfl r2 ?_
        refine hK.out _ _ (hT2.of_no) (fun hHeld => ?_)
        clear hK
        have zc := ((HR2.out).turn hT2 (fun q => q)).cell 229 _ HC2.out
        have zf := ((HR2.out).turn hT2 (fun q => q)).frozen 229
        refine' wpAnyH_take (i := 11) (v := .slice (some ⟨g2, 0, none⟩) 0 c2) rfl (by kernel_rfl) (by kernel_rfl) (by kernel_rfl) (fun _ _ _ h => h) (Or.inl ⟨by kernel_rfl, fun W hW => ?y24⟩) hHeld ?r24
        · have hcc : ¬ c2 < 0 := by omega
          go_simp
        refine' wpAnyH_take (i := 12) (v := .pointer (some ⟨g3, 229, none⟩)) rfl (by kernel_rfl) (by kernel_rfl) (by kernel_rfl) (fun _ _ _ h => h) (Or.inl ⟨by kernel_rfl, fun W hW => ?y25⟩) hHeld ?r25
        · go_simp
        refine wpAnyH_ready (rs := [13]) (by kernel_rfl) (by simp) ?_
        refine AllReadyH.cons rfl (fun K hK => ?_) AllReadyH.nil
        go_simp
        have TS : Turn (fun k => k = g3) wx (w2.setCell ⟨g3, 229, none⟩ (.slice (some ⟨g2, 0, none⟩) 0 c2)) := (hT2.of_no (S := fun k => k = g3)).setCell (p := ⟨g3, 229, none⟩) (fun _ => rfl) _
        refine hK.out _ _ TS (fun hHeld => ?_)
        clear hK
        refine wpAnyH_done (by kernel_rfl) ?_ _
        go_simp
        go_wp2_with fail
        go_meet
        case rel => exact ⟨rfl, _, rfl, TS, (HR2.out.turn hT2 (fun q => q)).set 229 _⟩
    case rest =>
      obtain ⟨rfl, s2, H2⟩ := hcut
      obtain ⟨wy, rfl⟩ : ∃ wy : World, wy = wc := ⟨_, rfl⟩
      have HK3 : Shut (∀ W, Turn (fun k => k = g3) wy W → Row W w.heap.size B 38 ∧ Row W (w.heap.size + 1) Try.zeroCells38 38 ∧ Turn no w W) := fun W t => HK2.out W (H2.out.2.1.trans t (fun _ _ e => e))
      have HR3 := shut H2.out.2.2
      have HS2 := shut H2.out.1
      obtain ⟨n, hn⟩ : ∃ n, Hid (l.length = n) := ⟨_, rfl⟩
      have HB3' := HB3.out
      have HC3 : Shut (((B.setIfInBounds 228 s1).setIfInBounds 229 s2)[264]? = some (.slice a n cp)) := by show _ = _; rw [Array.getElem?_setIfInBounds_ne (by decide), Array.getElem?_setIfInBounds_ne (by decide), ← hn.out]; exact HB3'
      have HB4 : Shut (B[264]? = some (.slice a n cp)) := by show _ = _; rw [← hn.out]; exact HB3'
      have HSRC : Shut (∀ W, Turn no wy W → Src Try.prog 18 28 (.slice a n cp) n (mkF l) W) := fun W t => by
        have := (HKS.out.turn_no ((HK3.out wy (Turn.refl _ wy)).2.2.then_no t)).srcAny
        rw [hn.out] at this
        exact this
      have HBN : Shut ((n + 1) * 32 ≤ 140737488355328) := by have h1 := HBB.out; have h2 := hn.out; show _ ≤ _; omega
      have HMN : Shut (n + 1 ≤ maxLen) := by have h1 := HBB.out; have h2 := hn.out; show _ ≤ _; simp only [maxLen]; omega
      have HOKS := shut HKS.out.ok
      have HG3 : Shut (w.heap.size + 1 < g3 ∧ g3 < wy.heap.size) := by
        have q1 := HR3.out.lt
        have q2 := HS0.out
        refine ⟨?_, q1⟩
        omega
      clear HK2 HR2 H2 HB2 HC2 HB3' HB3 HKS HBB
      go_upto_region 4 with fail
      go_cut [3] from 5 to 45 (fun c wz => c = .pointer (some ⟨g3, 0, none⟩) ∧ ∃ g cap, Shut (KsAt wz (some ⟨g, 0, none⟩) cap (l ++ [mk71]) ∧ w.heap.size + 1 < g ∧ Turn (fun k => k = g3) wy wz ∧ Row wz g3 (((B.setIfInBounds 228 s1).setIfInBounds 229 s2).setIfInBounds 264 (.slice (some ⟨g, 0, none⟩) n cap)) 38))
      case first =>
        have hap := app_a Try.underlying28 info50 rfl (by decide) wy (vs := .slice a n cp) (n := n) (news := mkF l) HSRC.out (X := (mkA mk71)) rfl (mkL_one mk71) HBN.out HMN.out
        have HAB := shut (app_b Try.underlying28 info50 rfl (by decide) wy (vs := .slice a n cp) (n := n) (news := mkF l) HSRC.out (X := (mkA mk71)) rfl (mkL_one mk71) HBN.out HMN.out)
        have HAC := shut (app_c Try.underlying28 info50 rfl (by decide) wy (vs := .slice a n cp) (n := n) (news := mkF l) HSRC.out (X := (mkA mk71)) rfl (mkL_one mk71) HBN.out HMN.out)
        have HAA := shut hap
        clear hap
        refine wp_region_held_drew (S := fun W => Turn (fun k => k = g3) wy W) (by kernel_rfl) (Turn.refl _ wy).drew (fun hHeld => ?_)
        refine' wpAnyH_take (i := 1) (v := .pointer (some ⟨w.heap.size, 230, none⟩)) rfl (by kernel_rfl) (by kernel_rfl) (by kernel_rfl) (fun _ _ _ h => h) (Or.inl ⟨by kernel_rfl, fun W hW => ?y26⟩) hHeld ?r26
        · go_simp
        refine' wpAnyH_take (i := 2) (v := .pointer (some ⟨w.heap.size, 264, none⟩)) rfl (by kernel_rfl) (by kernel_rfl) (by kernel_rfl) (fun _ _ _ h => h) (Or.inl ⟨by kernel_rfl, fun W hW => ?y27⟩) hHeld ?r27
        · go_simp
        refine' wpAnyH_take (i := 3) (v := .slice a n cp) rfl (by kernel_rfl) (by kernel_rfl) (by kernel_rfl) (fun _ _ _ h => h) (Or.inl ⟨by kernel_rfl, fun W hW => ?y28⟩) hHeld ?r28
        · have z := (HK3.out W hW).1.cell 264 _ HB4.out
          go_simp
        refine' wpAnyH_take (i := 5) (v := .agg (mkA mk71)) rfl (by kernel_rfl) (by kernel_rfl) (by kernel_rfl) (fun _ _ _ h => h) (Or.inl ⟨by kernel_rfl, fun W hW => ?y29⟩) hHeld ?r29
        · go_simp
          rfl
        refine' wpAnyH_take (i := 8) (v := .pointer (some ⟨w.heap.size, 230, none⟩)) rfl (by kernel_rfl) (by kernel_rfl) (by kernel_rfl) (fun _ _ _ h => h) (Or.inl ⟨by kernel_rfl, fun W hW => ?y30⟩) hHeld ?r30
        · go_simp
        refine' wpAnyH_take (i := 9) (v := .pointer (some ⟨w.heap.size, 264, none⟩)) rfl (by kernel_rfl) (by kernel_rfl) (by kernel_rfl) (fun _ _ _ h => h) (Or.inl ⟨by kernel_rfl, fun W hW => ?y31⟩) hHeld ?r31
        · go_simp
        refine' wpAnyH_take (i := 10) (v := .slice a n cp) rfl (by kernel_rfl) (by kernel_rfl) (by kernel_rfl) (fun _ _ _ h => h) (Or.inl ⟨by kernel_rfl, fun W hW => ?y32⟩) hHeld ?r32
        · have z := (HK3.out W hW).1.cell 264 _ HB4.out
          go_simp
        refine' wpAnyH_take (i := 11) (v := .int .i64 n) rfl (by kernel_rfl) (by kernel_rfl) (by kernel_rfl) (fun _ _ _ h => h) (Or.inl ⟨by kernel_rfl, fun W hW => ?y33⟩) hHeld ?r33
        · go_simp
        refine wpAnyH_ready (rs := [0, 6]) (by kernel_rfl) (by simp) ?_
        refine AllReadyH.cons rfl (fun K hK => ?_) (AllReadyH.cons rfl (fun K hK => ?_) AllReadyH.nil)
        · go_simp
          refine hK.out _ _ ((Turn.refl no wy).drew.alloc (.cells #[] 50)).of_no (fun hHeld => ?_)
          clear hK
          refine wpAnyH_ready (rs := [4, 6]) (by kernel_rfl) (by simp) ?_
          refine AllReadyH.cons rfl (fun K hK => ?_) (AllReadyH.cons rfl (fun K hK => ?_) AllReadyH.nil)
          · obtain ⟨v1, w1a, v2, w2, r1, hT1, r2, hTX, hT2, hO, g2, c2, rfl, hc2, hg2⟩ := HAA.out
            clear HAA HAB HAC
            have HO := shut hO
            clear hO
            rw [if_pos (by rfl)]
            refine wp_append_run _ _ rfl _ _ rfl rfl r1 ?_
            refine hK.out _ _ hT1.of_no (fun hHeld => ?_)
            clear hK r1
            refine wpAnyH_ready (rs := [6]) (by kernel_rfl) (by simp) ?_
            refine AllReadyH.cons rfl (fun K hK => ?_) AllReadyH.nil
            go_simp
            refine hK.out _ _ (hTX.of_no) (fun hHeld => ?_)
            clear hK
            refine wpAnyH_ready (rs := [7]) (by kernel_rfl) (by simp) ?_
            refine AllReadyH.cons rfl (fun K hK => ?_) AllReadyH.nil
            rw [if_pos (by rfl)]
            refine wp_append_run _ _ rfl _ _ rfl rfl r2 ?_
            refine hK.out _ _ (hT2.of_no) (fun hHeld => ?_)
            clear hK
            have zc := ((HR3.out).turn hT2 (fun q => q)).cell 264 _ HC3.out
            have zf := ((HR3.out).turn hT2 (fun q => q)).frozen 264
            refine' wpAnyH_take (i := 12) (v := .slice (some ⟨g2, 0, none⟩) n c2) rfl (by kernel_rfl) (by kernel_rfl) (by kernel_rfl) (fun _ _ _ h => h) (Or.inl ⟨by kernel_rfl, fun W hW => ?y34⟩) hHeld ?r34
            · have hcc : ¬ c2 < n := by omega
              go_simp
            refine' wpAnyH_take (i := 13) (v := .pointer (some ⟨g3, 230, none⟩)) rfl (by kernel_rfl) (by kernel_rfl) (by kernel_rfl) (fun _ _ _ h => h) (Or.inl ⟨by kernel_rfl, fun W hW => ?y35⟩) hHeld ?r35
            · go_simp
            refine' wpAnyH_take (i := 14) (v := .pointer (some ⟨g3, 264, none⟩)) rfl (by kernel_rfl) (by kernel_rfl) (by kernel_rfl) (fun _ _ _ h => h) (Or.inl ⟨by kernel_rfl, fun W hW => ?y36⟩) hHeld ?r36
            · go_simp
            refine wpAnyH_ready (rs := [15]) (by kernel_rfl) (by simp) ?_
            refine AllReadyH.cons rfl (fun K hK => ?_) AllReadyH.nil
            go_simp
            have TS : Turn (fun k => k = g3) wy (w2.setCell ⟨g3, 264, none⟩ (.slice (some ⟨g2, 0, none⟩) n c2)) := (hT2.of_no (S := fun k => k = g3)).setCell (p := ⟨g3, 264, none⟩) (fun _ => rfl) _
            refine hK.out _ _ TS (fun hHeld => ?_)
            clear hK
            refine wpAnyH_done (by kernel_rfl) ?_ _
            go_simp
            go_wp2_with fail
            go_meet
            case rel => exact ⟨rfl, g2, c2, own_end HO.out hn.out HOKS.out (by have := HG3.out; omega) 264 _, by have := HG3.out; omega, TS, (HR3.out.turn hT2 (fun q => q)).set 264 _⟩
          · obtain ⟨v1, w1a, v2, w2, r1, hT1, r2, hT2, hO, g2, c2, rfl, hc2, hg2⟩ := HAB.out
            clear HAA HAB HAC
            have HO := shut hO
            clear hO
            go_simp
            refine hK.out _ _ (((Turn.refl no wy).drew.alloc (.cells #[] 50)).alloc (.cells (mkA mk71) 50)).of_no (fun hHeld => ?_)
            clear hK
            refine wpAnyH_ready (rs := [4]) (by kernel_rfl) (by simp) ?_
            refine AllReadyH.cons rfl (fun K hK => ?_) AllReadyH.nil
            rw [if_pos (by rfl)]
            refine wp_append_run _ _ rfl _ _ rfl rfl r1 ?_
            refine hK.out _ _ (hT1.of_no) (fun hHeld => ?_)
            clear hK
            refine wpAnyH_ready (rs := [7]) (by kernel_rfl) (by simp) ?_
            refine AllReadyH.cons rfl (fun K hK => ?_) AllReadyH.nil
            rw [if_pos (by rfl)]
            refine wp_append_run _ _ rfl _ _ rfl rfl r2 ?_
            refine hK.out _ _ (hT2.of_no) (fun hHeld => ?_)
            clear hK
            have zc := ((HR3.out).turn hT2 (fun q => q)).cell 264 _ HC3.out
            have zf := ((HR3.out).turn hT2 (fun q => q)).frozen 264
            refine' wpAnyH_take (i := 12) (v := .slice (some ⟨g2, 0, none⟩) n c2) rfl (by kernel_rfl) (by kernel_rfl) (by kernel_rfl) (fun _ _ _ h => h) (Or.inl ⟨by kernel_rfl, fun W hW => ?y37⟩) hHeld ?r37
            · have hcc : ¬ c2 < n := by omega
              go_simp
            refine' wpAnyH_take (i := 13) (v := .pointer (some ⟨g3, 230, none⟩)) rfl (by kernel_rfl) (by kernel_rfl) (by kernel_rfl) (fun _ _ _ h => h) (Or.inl ⟨by kernel_rfl, fun W hW => ?y38⟩) hHeld ?r38
            · go_simp
            refine' wpAnyH_take (i := 14) (v := .pointer (some ⟨g3, 264, none⟩)) rfl (by kernel_rfl) (by kernel_rfl) (by kernel_rfl) (fun _ _ _ h => h) (Or.inl ⟨by kernel_rfl, fun W hW => ?y39⟩) hHeld ?r39
            · go_simp
            refine wpAnyH_ready (rs := [15]) (by kernel_rfl) (by simp) ?_
            refine AllReadyH.cons rfl (fun K hK => ?_) AllReadyH.nil
            go_simp
            have TS : Turn (fun k => k = g3) wy (w2.setCell ⟨g3, 264, none⟩ (.slice (some ⟨g2, 0, none⟩) n c2)) := (hT2.of_no (S := fun k => k = g3)).setCell (p := ⟨g3, 264, none⟩) (fun _ => rfl) _
            refine hK.out _ _ TS (fun hHeld => ?_)
            clear hK
            refine wpAnyH_done (by kernel_rfl) ?_ _
            go_simp
            go_wp2_with fail
            go_meet
            case rel => exact ⟨rfl, g2, c2, own_end HO.out hn.out HOKS.out (by have := HG3.out; omega) 264 _, by have := HG3.out; omega, TS, (HR3.out.turn hT2 (fun q => q)).set 264 _⟩
        · obtain ⟨v1, w1a, v2, w2, r1, hT1, r2, hT2, hO, g2, c2, rfl, hc2, hg2⟩ := HAC.out
          clear HAA HAB HAC
          have HO := shut hO
          clear hO
          go_simp
          refine hK.out _ _ ((Turn.refl no wy).drew.alloc (.cells (mkA mk71) 50)).of_no (fun hHeld => ?_)
          clear hK
          refine wpAnyH_ready (rs := [0]) (by kernel_rfl) (by simp) ?_
          refine AllReadyH.cons rfl (fun K hK => ?_) AllReadyH.nil
          go_simp
          refine hK.out _ _ ((((Turn.refl no wy).drew.alloc (.cells (mkA mk71) 50)).alloc (.cells #[] 50)).of_no) (fun hHeld => ?_)
          clear hK
          refine wpAnyH_ready (rs := [4]) (by kernel_rfl) (by simp) ?_
          refine AllReadyH.cons rfl (fun K hK => ?_) AllReadyH.nil
          rw [if_pos (by rfl)]
          refine wp_append_run _ _ rfl _ _ rfl rfl r1 ?_
          refine hK.out _ _ (hT1.of_no) (fun hHeld => ?_)
          clear hK
          refine wpAnyH_ready (rs := [7]) (by kernel_rfl) (by simp) ?_
          refine AllReadyH.cons rfl (fun K hK => ?_) AllReadyH.nil
          rw [if_pos (by rfl)]
          refine wp_append_run _ _ rfl _ _ rfl rfl r2 ?_
          refine hK.out _ _ (hT2.of_no) (fun hHeld => ?_)
          clear hK
          have zc := ((HR3.out).turn hT2 (fun q => q)).cell 264 _ HC3.out
          have zf := ((HR3.out).turn hT2 (fun q => q)).frozen 264
          refine' wpAnyH_take (i := 12) (v := .slice (some ⟨g2, 0, none⟩) n c2) rfl (by kernel_rfl) (by kernel_rfl) (by kernel_rfl) (fun _ _ _ h => h) (Or.inl ⟨by kernel_rfl, fun W hW => ?y40⟩) hHeld ?r40
          · have hcc : ¬ c2 < n := by omega
            go_simp
          refine' wpAnyH_take (i := 13) (v := .pointer (some ⟨g3, 230, none⟩)) rfl (by kernel_rfl) (by kernel_rfl) (by kernel_rfl) (fun _ _ _ h => h) (Or.inl ⟨by kernel_rfl, fun W hW => ?y41⟩) hHeld ?r41
          · go_simp
          refine' wpAnyH_take (i := 14) (v := .pointer (some ⟨g3, 264, none⟩)) rfl (by kernel_rfl) (by kernel_rfl) (by kernel_rfl) (fun _ _ _ h => h) (Or.inl ⟨by kernel_rfl, fun W hW => ?y42⟩) hHeld ?r42
          · go_simp
          refine wpAnyH_ready (rs := [15]) (by kernel_rfl) (by simp) ?_
          refine AllReadyH.cons rfl (fun K hK => ?_) AllReadyH.nil
          go_simp
          have TS : Turn (fun k => k = g3) wy (w2.setCell ⟨g3, 264, none⟩ (.slice (some ⟨g2, 0, none⟩) n c2)) := (hT2.of_no (S := fun k => k = g3)).setCell (p := ⟨g3, 264, none⟩) (fun _ => rfl) _
          refine hK.out _ _ TS (fun hHeld => ?_)
          clear hK
          refine wpAnyH_done (by kernel_rfl) ?_ _
          go_simp
          go_wp2_with fail
          go_meet
          case rel => exact ⟨rfl, g2, c2, own_end HO.out hn.out HOKS.out (by have := HG3.out; omega) 264 _, by have := HG3.out; omega, TS, (HR3.out.turn hT2 (fun q => q)).set 264 _⟩
      case rest =>
        obtain ⟨rfl, g, cap, H3⟩ := hcut
        obtain ⟨wz, rfl⟩ : ∃ wz : World, wz = wc := ⟨_, rfl⟩
        have HC := H3.out.2.2.2
        obtain ⟨C, hC⟩ : ∃ C, ((B.setIfInBounds 228 s1).setIfInBounds 229 s2).setIfInBounds 264 (.slice (some ⟨g, 0, none⟩) n cap) = C := ⟨_, rfl⟩
        have hone : C.all (·.oneCell') = true := by rw [← hC]; exact set_one (set_one (set_one HONE.out HS1.out) HS2.out) rfl
        have hsz : C.size = 265 := by rw [← hC]; simp [HB.out]
        have hi : (Try.prog.info? 38).map (·.size) = some C.size := by rw [hsz]; exact size38
        have hold : Try.zeroCells38.size = C.size := by rw [hsz]; exact zero38
        obtain ⟨_, hZ, hT⟩ := HK3.out wz H3.out.2.2.1
        rw [hC] at HC
        have HCC := shut hC
        have HT := shut hT
        have HKA := shut H3.out.1
        have HGG := shut H3.out.2.1
        clear hsz hC hT H3 HK3 HR3 HC3 HB4 HSRC HBN HMN HOKS HG3 HONE HS1 HS2 HB HI38 HZB HS0
        go_wp2_with (first | (refine wpList_load_row rfl 38 (.tmp 3) rfl g3 rfl 38 C _ _ HC Try.underlying38 rfl hi ?_) | (refine wpList_store_anyN rfl rfl 38 (.tmp 2) (.tmp 45) rfl (w.heap.size + 1) C rfl rfl 38 Try.zeroCells38 hZ hi hold hone ?_; intro w9 R9 T9))
        refine ⟨rfl, _, results_cell_row (g := w.heap.size + 1) (cs := C) (t := 38) rfl _ _ _ _ rfl R9 Try.underlying38 rfl hi, s1, s2, g, cap, ?_, HKA.out.turn T9 (fun x q => ?_), HT.out.trans T9 (fun i hi q => by omega)⟩
        · rw [← HCC.out, hn.out]
        · cases q
          have := HGG.out
          show ¬ g = _
          omega
end Go.Proofs.Ytbhimedajfkioaa
