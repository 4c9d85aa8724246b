/- numbered: a call is counted, its trouble befalls it. -/
import Derived.Test.YtcdogciacchigabM4
namespace Go.Proofs.Ytcdogciacchigab
open Go.RowKit Go.Maps
set_option linter.unusedVariables false
section
variable {w : World} {p : Nat} {K : Nat → Prop} {bf bt : Option Nat} {V : Nm → Value} {s : St}


set_option maxRecDepth 100000 in
set_option maxHeartbeats 4000000 in
theorem numbered_53 (h : Dp w p K bf bt V s) (hoff : s.off = false) (hn : s.n < 4611686018427387904) (caps : Array Value) (l : List Pf) (B : Nat) (hdo : Does B w p K bf bt V s l 74 caps) :
    Calls Try.prog 46 #[ptr p, .func (.func 74) #[] caps] w fun e w' => e = .returned (.int .i64 (numb s l).2) ∧ ∃ K', Dk w' p K' (numb s l).1 ∧ (∀ k, K' k → K k ∨ B ≤ k) ∧ Turn (fun k => K k ∨ B ≤ k) w w' := by
  obtain ⟨b, D, rfl, kb, hbf, o, tm⟩ := h.on_troubles hoff
  have hbp : b ≠ p := row_not_map h.row o
  obtain ⟨k, hk⟩ : ∃ k : Int, k = (s.n : Int) + 1 := ⟨_, rfl⟩
  have hk' : ((s.n + 1 : Nat) : Int) = k := by omega
  have hw : IntKind.i64.wrap ((s.n : Int) + 1) = k := by rw [wrap_i64 (by omega) (by omega)]; exact hk.symm
  have R0 := h.row
  have T1 : Turn (fun q => q = p) w (w.setCell ⟨p, 4, none⟩ (.int .i64 k)) := Turn.setCell (S := fun k => k = p) (Turn.refl _ w) (p := ⟨p, 4, none⟩) (fun _ => rfl) _
  have R1 : Row (w.setCell ⟨p, 4, none⟩ (.int .i64 k)) p (dkC p s.lim (usedF s.fs) (s.n + 1) bf (some b) s.off s.out) 82 := by
    have := R0.set 4 (.int .i64 k)
    rw [← hk'] at this ⊢
    exact this
  have c4 : w.cell? ⟨p, 4, none⟩ = some (.int .i64 s.n) := h.c4
  have f4 := R0.frozen 4
  have hsz1 := T1.size
  have hsame : (w.setCell ⟨p, 4, none⟩ (.int .i64 k)).heap.size = w.heap.size := by simp
  have o1 := ownsMap_turn o T1 (fun q => hbp q)
  generalize hw1 : w.setCell ⟨p, 4, none⟩ (.int .i64 k) = w1 at *
  have hw1' : w.setCell ⟨p, 4, none⟩ (.int .i64 ((s.n : Int) + 1)) = w1 := by rw [← hk]; exact hw1
  have hl := fun W (t : Turn no w1 W) => (arms_look (ownsMap_turn o1 t (fun q => q)) tm k (by omega) (by omega)).2
  obtain ⟨tw, tk, td, htr⟩ : ∃ tw tk td, stoodT s.arms k = Tr.mk tw tk td := ⟨_, _, _, rfl⟩
  rw [htr] at hl
  simp only [trV] at hl
  have T2 : Turn no w1 (w1.alloc (.cells #[.int .i64 tw, .int .i64 tk, .bool td] 30)).drew := ((Turn.refl no w1).alloc _).drew
  have B2 : Row (w1.alloc (.cells #[.int .i64 tw, .int .i64 tk, .bool td] 30)).drew w1.heap.size #[.int .i64 tw, .int .i64 tk, .bool td] 30 := (Row.new w1 _ 30).drew
  have R2 := R1.turn T2 (fun q => q)
  have o2 := ownsMap_turn o1 T2 (fun q => q)
  generalize hw2 : (w1.alloc (.cells #[.int .i64 tw, .int .i64 tk, .bool td] 30)).drew = w2 at *
  obtain ⟨w3, hst, o3, mt⟩ := (o2.drew).drop law3 Try.underlying80 (iKey_of k (by omega) (by omega)) 0
  have hst' : ∀ ty, (Builtin.delete_ #[80, 3] ty #[.map (some b), .int .i64 k]).run Try.prog w2.drew = .ok (.tuple #[]) w3 := fun ty => hst
  have t3 : Turn (fun q => q = b) w2 w3 := ((Turn.refl no w2).drew.of_no).trans (mapTurn mt) (fun _ _ q => q)
  have T3 : Turn (fun q => q = p ∨ some b = some q) w w3 := ((T1.mono (fun _ _ q => Or.inl q)).then_no T2).trans t3 (fun _ _ q => Or.inr (by rw [q]))
  have hge : w1.heap.size ≠ b := by have := o1.lt; omega
  have B3 := B2.turn t3 (fun q => hge q)
  have R3 := R2.turn t3 (fun q => hbp q.symm)
  have hD : Dp w3 p K bf (some b) V (counted s) := by
    have hne : ∀ k e xs u, Own w e u xs → u.ownBlock = some k → k ≠ b := fun k e xs u hu hk q => by
      subst q
      rcases hu.shape with ⟨rfl, _⟩ | ⟨g', cap, cur, rfl, ho', _⟩
      · cases hk
      · cases hk
        exact row_not_map ho' o rfl
    have hneP : ∀ f' ∈ s.fs, ∀ k, (V f'.nm).ownBlock = some k → k ≠ p := fun f' hf' k hk q => by
      subst q
      rcases (h.bytes f' hf').shape with ⟨e, _⟩ | ⟨g', cap, cur, e, ho', _⟩
      · rw [e] at hk; cases hk
      · rw [e] at hk; cases hk
        have := h.row
        unfold Row at this
        rw [ho'] at this
        simp at this
    refine ⟨h.inv.counted, R3, h.kp, fun k hk => Nat.lt_of_lt_of_le (h.klt k hk) T3.size, ?_, ?_, fun f hf => (h.bytes f hf).turn T3 (fun g hg q => ?_), h.owned, h.apart⟩
    · rcases h.files with q | ⟨q, b', D', e, kb', o', fm⟩
      · exact Or.inl q
      · exact Or.inr ⟨q, b', D', e, kb', ownsMap_turn o' T3 (fun q => by
          rcases q with q | q
          · exact row_not_map h.row o' q
          · exact hbf (by rw [e, q])), fm⟩
    · have tm' := tm.drop k
      rw [hk] at tm' o3
      exact Or.inr ⟨hoff, b, _, rfl, kb, hbf, o3, tm'⟩
    · rcases q with q | q
      · exact hneP f hf g hg q
      · exact hne g _ _ _ (h.bytes f hf) hg (by simpa using q.symm)
  have hdo3 := hdo w3 hD T3
  have hKT : ∀ q, q = p ∨ some b = some q → K q := fun q hq => by
    rcases hq with q' | q'
    · rw [q']; exact h.kp
    · cases q'; exact kb
  have TK : Turn (fun k => K k ∨ B ≤ k) w w3 := T3.mono (fun q _ hq => Or.inl (hKT q hq))
  have harms := h.inv.arms
  have hkp := h.kp
  have hb1 : Row w3 w1.heap.size #[.int .i64 tw, .int .i64 tk, .bool td] 30 := B3
  clear hdo R0 T3 mt o tm hst h
  unfold ptr at *
  have R1' : ∀ W, Turn no w1 W → W.cell? ⟨p, 5, none⟩ = some (.map (some b)) ∧ W.cell? ⟨p, 4, none⟩ = some (.int .i64 k) := fun W t => ⟨(R1.turn t (fun q => q)).cell 5 _ rfl, by rw [← hk']; exact (R1.turn t (fun q => q)).cell 4 _ rfl⟩
  have R2' : ∀ W, Turn (fun q => q = b) w2 W → W.cell? ⟨p, 5, none⟩ = some (.map (some b)) ∧ W.cell? ⟨p, 4, none⟩ = some (.int .i64 k) := fun W t => ⟨(R2.turn t (fun q => hbp q.symm)).cell 5 _ rfl, by rw [← hk']; exact (R2.turn t (fun q => hbp q.symm)).cell 4 _ rfl⟩
  have d1 : w3.cell? ⟨w1.heap.size, 1, none⟩ = some (.int .i64 tk) := hb1.cell 1 _ rfl
  have d2 : w3.cell? ⟨w1.heap.size, 2, none⟩ = some (.bool td) := hb1.cell 2 _ rfl
  clear R1 R2 R3 B2 B3
  have HK : Hid (k = (s.n : Int) + 1) := hk
  have HW2 : Hid ((w1.alloc (.cells #[.int .i64 tw, .int .i64 tk, .bool td] 30)).drew = w2) := hw2
  clear hk hk' hw hw2 hsame hsz1
  cases ha : armAt k s.arms with
  | none =>
    have e0 : numb s l = ({ counted s with fs := l }, 0) := numb_none (by rw [← HK.out]; exact ha)
    have et : Tr.mk tw tk td = ⟨0, 0, false⟩ := by rw [← htr, stoodT, ha]
    simp only [Tr.mk.injEq] at et
    obtain ⟨rfl, rfl, rfl⟩ := et
    rw [e0]
    clear e0 htr
    go_enter Try.func46, Try.ntmps46
    go_wp2_with fail
    refine wp_region_noPanic ?_
    refine wp_region_held_drew (S := fun W => Turn no w1 W) (by kernel_rfl) (Turn.refl _ w1).drew (fun hHeld => ?_)
    refine' wpAnyH_take (i := 0) (v := .pointer (some ⟨p, 0, none⟩)) rfl (by kernel_rfl) (by kernel_rfl) (by kernel_rfl) (fun _ _ _ h => h) (Or.inl ⟨by kernel_rfl, fun W hW => ?y1⟩) hHeld ?r1
    · go_simp
    refine' wpAnyH_take (i := 1) (v := .pointer (some ⟨p, 0, none⟩)) rfl (by kernel_rfl) (by kernel_rfl) (by kernel_rfl) (fun _ _ _ h => h) (Or.inl ⟨by kernel_rfl, fun W hW => ?y2⟩) hHeld ?r2
    · go_simp
    refine' wpAnyH_take (i := 2) (v := .pointer (some ⟨p, 5, none⟩)) rfl (by kernel_rfl) (by kernel_rfl) (by kernel_rfl) (fun _ _ _ h => h) (Or.inl ⟨by kernel_rfl, fun W hW => ?y3⟩) hHeld ?r3
    · go_simp
    refine' wpAnyH_take (i := 3) (v := .map (some b)) rfl (by kernel_rfl) (by kernel_rfl) (by kernel_rfl) (fun _ _ _ h => h) (Or.inl ⟨by kernel_rfl, fun W hW => ?y4⟩) hHeld ?r4
    · have c := (R1' W hW).1
      go_simp
    refine' wpAnyH_take (i := 4) (v := .pointer (some ⟨p, 0, none⟩)) rfl (by kernel_rfl) (by kernel_rfl) (by kernel_rfl) (fun _ _ _ h => h) (Or.inl ⟨by kernel_rfl, fun W hW => ?y5⟩) hHeld ?r5
    · go_simp
    refine' wpAnyH_take (i := 5) (v := .pointer (some ⟨p, 0, none⟩)) rfl (by kernel_rfl) (by kernel_rfl) (by kernel_rfl) (fun _ _ _ h => h) (Or.inl ⟨by kernel_rfl, fun W hW => ?y6⟩) hHeld ?r6
    · go_simp
    refine' wpAnyH_take (i := 6) (v := .pointer (some ⟨p, 4, none⟩)) rfl (by kernel_rfl) (by kernel_rfl) (by kernel_rfl) (fun _ _ _ h => h) (Or.inl ⟨by kernel_rfl, fun W hW => ?y7⟩) hHeld ?r7
    · go_simp
    refine' wpAnyH_take (i := 7) (v := .int .i64 k) rfl (by kernel_rfl) (by kernel_rfl) (by kernel_rfl) (fun _ _ _ h => h) (Or.inl ⟨by kernel_rfl, fun W hW => ?y8⟩) hHeld ?r8
    · have c := (R1' W hW).2
      go_simp
    refine' wpAnyH_take (i := 8) (v := .agg #[.int .i64 0, .int .i64 0, .bool false]) rfl (by kernel_rfl) (by kernel_rfl) (by kernel_rfl) (fun _ _ _ h => h) (Or.inl ⟨by kernel_rfl, fun W hW => ?y9⟩) hHeld ?r9
    · have c := hl W hW
      go_simp
    refine wpAnyH_ready (rs := [9]) (by kernel_rfl) (by simp) ?_
    refine AllReadyH.cons rfl (fun K hK => ?_) AllReadyH.nil
    go_simp
    refine hK.out _ _ (by first | exact ((Turn.refl no w1).alloc _).drew | exact T2) (fun hHeld => ?_)
    clear hK
    refine wpAnyH_ready (rs := [10]) (by kernel_rfl) (by simp) ?_
    refine AllReadyH.cons rfl (fun K hK => ?_) AllReadyH.nil
    go_simp
    rw [HW2.out]
    refine hK.out _ _ T2 (fun hHeld => ?_)
    clear hK
    refine wpAnyH_done (by kernel_rfl) ?_ _
    refine NoPanic.normal ?_
    go_wp2_with fail
    refine wp_region_noPanic ?_
    refine wp_region_held_drew (S := fun W => Turn (fun q => q = b) w2 W) (by kernel_rfl) (Turn.refl _ w2).drew (fun hHeld => ?_)
    refine' wpAnyH_take (i := 0) (v := .pointer (some ⟨p, 0, none⟩)) rfl (by kernel_rfl) (by kernel_rfl) (by kernel_rfl) (fun _ _ _ h => h) (Or.inl ⟨by kernel_rfl, fun W hW => ?y10⟩) hHeld ?r10
    · go_simp
    refine' wpAnyH_take (i := 1) (v := .pointer (some ⟨p, 0, none⟩)) rfl (by kernel_rfl) (by kernel_rfl) (by kernel_rfl) (fun _ _ _ h => h) (Or.inl ⟨by kernel_rfl, fun W hW => ?y11⟩) hHeld ?r11
    · go_simp
    refine' wpAnyH_take (i := 2) (v := .pointer (some ⟨p, 5, none⟩)) rfl (by kernel_rfl) (by kernel_rfl) (by kernel_rfl) (fun _ _ _ h => h) (Or.inl ⟨by kernel_rfl, fun W hW => ?y12⟩) hHeld ?r12
    · go_simp
    refine' wpAnyH_take (i := 3) (v := .map (some b)) rfl (by kernel_rfl) (by kernel_rfl) (by kernel_rfl) (fun _ _ _ h => h) (Or.inl ⟨by kernel_rfl, fun W hW => ?y13⟩) hHeld ?r13
    · have c := (R2' W hW).1
      go_simp
    refine' wpAnyH_take (i := 4) (v := .pointer (some ⟨p, 0, none⟩)) rfl (by kernel_rfl) (by kernel_rfl) (by kernel_rfl) (fun _ _ _ h => h) (Or.inl ⟨by kernel_rfl, fun W hW => ?y14⟩) hHeld ?r14
    · go_simp
    refine' wpAnyH_take (i := 5) (v := .pointer (some ⟨p, 0, none⟩)) rfl (by kernel_rfl) (by kernel_rfl) (by kernel_rfl) (fun _ _ _ h => h) (Or.inl ⟨by kernel_rfl, fun W hW => ?y15⟩) hHeld ?r15
    · go_simp
    refine' wpAnyH_take (i := 6) (v := .pointer (some ⟨p, 4, none⟩)) rfl (by kernel_rfl) (by kernel_rfl) (by kernel_rfl) (fun _ _ _ h => h) (Or.inl ⟨by kernel_rfl, fun W hW => ?y16⟩) hHeld ?r16
    · go_simp
    refine' wpAnyH_take (i := 7) (v := .int .i64 k) rfl (by kernel_rfl) (by kernel_rfl) (by kernel_rfl) (fun _ _ _ h => h) (Or.inl ⟨by kernel_rfl, fun W hW => ?y17⟩) hHeld ?r17
    · have c := (R2' W hW).2
      go_simp
    refine wpAnyH_ready (rs := [8]) (by kernel_rfl) (by simp) ?_
    refine AllReadyH.cons rfl (fun K hK => ?_) AllReadyH.nil
    go_simp
    refine hK.out _ _ t3 (fun hHeld => ?_)
    clear hK
    refine wpAnyH_done (by kernel_rfl) ?_ _
    refine NoPanic.normal ?_
    go_wp2_with fail
    refine hdo3.mono ?_
    rintro e w4 ⟨rfl, K', V', hD', hF, hT4⟩
    go_wp2_with fail
    go_ret
    exact ⟨rfl, K', ⟨_, _, _, hD'⟩, hF, TK.trans hT4 (fun _ _ q => q)⟩
  | some t =>
    have et : t = Tr.mk tw tk td := by rw [← htr, stoodT, ha]
    subst et
    obtain ⟨a0, ha0, ha1⟩ := armAt_mem ha
    have hok := harms a0 ha0
    rw [ha1] at hok
    have hkind := kind_ok hok
    simp only at hkind
    rcases hkind with rfl | rfl
    · have e0 : numb s l = (counted s, 64) := numb_fault (by rw [← HK.out]; exact ha) rfl
      rw [e0]
      clear e0 htr ha1 hok
      go_enter Try.func46, Try.ntmps46
      go_wp2_with fail
      refine wp_region_noPanic ?_
      refine wp_region_held_drew (S := fun W => Turn no w1 W) (by kernel_rfl) (Turn.refl _ w1).drew (fun hHeld => ?_)
      refine' wpAnyH_take (i := 0) (v := .pointer (some ⟨p, 0, none⟩)) rfl (by kernel_rfl) (by kernel_rfl) (by kernel_rfl) (fun _ _ _ h => h) (Or.inl ⟨by kernel_rfl, fun W hW => ?y18⟩) hHeld ?r18
      · go_simp
      refine' wpAnyH_take (i := 1) (v := .pointer (some ⟨p, 0, none⟩)) rfl (by kernel_rfl) (by kernel_rfl) (by kernel_rfl) (fun _ _ _ h => h) (Or.inl ⟨by kernel_rfl, fun W hW => ?y19⟩) hHeld ?r19
      · go_simp
      refine' wpAnyH_take (i := 2) (v := .pointer (some ⟨p, 5, none⟩)) rfl (by kernel_rfl) (by kernel_rfl) (by kernel_rfl) (fun _ _ _ h => h) (Or.inl ⟨by kernel_rfl, fun W hW => ?y20⟩) hHeld ?r20
      · go_simp
      refine' wpAnyH_take (i := 3) (v := .map (some b)) rfl (by kernel_rfl) (by kernel_rfl) (by kernel_rfl) (fun _ _ _ h => h) (Or.inl ⟨by kernel_rfl, fun W hW => ?y21⟩) hHeld ?r21
      · have c := (R1' W hW).1
        go_simp
      refine' wpAnyH_take (i := 4) (v := .pointer (some ⟨p, 0, none⟩)) rfl (by kernel_rfl) (by kernel_rfl) (by kernel_rfl) (fun _ _ _ h => h) (Or.inl ⟨by kernel_rfl, fun W hW => ?y22⟩) hHeld ?r22
      · go_simp
      refine' wpAnyH_take (i := 5) (v := .pointer (some ⟨p, 0, none⟩)) rfl (by kernel_rfl) (by kernel_rfl) (by kernel_rfl) (fun _ _ _ h => h) (Or.inl ⟨by kernel_rfl, fun W hW => ?y23⟩) hHeld ?r23
      · go_simp
      refine' wpAnyH_take (i := 6) (v := .pointer (some ⟨p, 4, none⟩)) rfl (by kernel_rfl) (by kernel_rfl) (by kernel_rfl) (fun _ _ _ h => h) (Or.inl ⟨by kernel_rfl, fun W hW => ?y24⟩) hHeld ?r24
      · go_simp
      refine' wpAnyH_take (i := 7) (v := .int .i64 k) rfl (by kernel_rfl) (by kernel_rfl) (by kernel_rfl) (fun _ _ _ h => h) (Or.inl ⟨by kernel_rfl, fun W hW => ?y25⟩) hHeld ?r25
      · have c := (R1' W hW).2
        go_simp
      refine' wpAnyH_take (i := 8) (v := .agg #[.int .i64 tw, .int .i64 1, .bool td]) rfl (by kernel_rfl) (by kernel_rfl) (by kernel_rfl) (fun _ _ _ h => h) (Or.inl ⟨by kernel_rfl, fun W hW => ?y26⟩) hHeld ?r26
      · have c := hl W hW
        go_simp
      refine wpAnyH_ready (rs := [9]) (by kernel_rfl) (by simp) ?_
      refine AllReadyH.cons rfl (fun K hK => ?_) AllReadyH.nil
      go_simp
      refine hK.out _ _ (by first | exact ((Turn.refl no w1).alloc _).drew | exact T2) (fun hHeld => ?_)
      clear hK
      refine wpAnyH_ready (rs := [10]) (by kernel_rfl) (by simp) ?_
      refine AllReadyH.cons rfl (fun K hK => ?_) AllReadyH.nil
      go_simp
      rw [HW2.out]
      refine hK.out _ _ T2 (fun hHeld => ?_)
      clear hK
      refine wpAnyH_done (by kernel_rfl) ?_ _
      refine NoPanic.normal ?_
      go_wp2_with fail
      refine wp_region_noPanic ?_
      refine wp_region_held_drew (S := fun W => Turn (fun q => q = b) w2 W) (by kernel_rfl) (Turn.refl _ w2).drew (fun hHeld => ?_)
      refine' wpAnyH_take (i := 0) (v := .pointer (some ⟨p, 0, none⟩)) rfl (by kernel_rfl) (by kernel_rfl) (by kernel_rfl) (fun _ _ _ h => h) (Or.inl ⟨by kernel_rfl, fun W hW => ?y27⟩) hHeld ?r27
      · go_simp
      refine' wpAnyH_take (i := 1) (v := .pointer (some ⟨p, 0, none⟩)) rfl (by kernel_rfl) (by kernel_rfl) (by kernel_rfl) (fun _ _ _ h => h) (Or.inl ⟨by kernel_rfl, fun W hW => ?y28⟩) hHeld ?r28
      · go_simp
      refine' wpAnyH_take (i := 2) (v := .pointer (some ⟨p, 5, none⟩)) rfl (by kernel_rfl) (by kernel_rfl) (by kernel_rfl) (fun _ _ _ h => h) (Or.inl ⟨by kernel_rfl, fun W hW => ?y29⟩) hHeld ?r29
      · go_simp
      refine' wpAnyH_take (i := 3) (v := .map (some b)) rfl (by kernel_rfl) (by kernel_rfl) (by kernel_rfl) (fun _ _ _ h => h) (Or.inl ⟨by kernel_rfl, fun W hW => ?y30⟩) hHeld ?r30
      · have c := (R2' W hW).1
        go_simp
      refine' wpAnyH_take (i := 4) (v := .pointer (some ⟨p, 0, none⟩)) rfl (by kernel_rfl) (by kernel_rfl) (by kernel_rfl) (fun _ _ _ h => h) (Or.inl ⟨by kernel_rfl, fun W hW => ?y31⟩) hHeld ?r31
      · go_simp
      refine' wpAnyH_take (i := 5) (v := .pointer (some ⟨p, 0, none⟩)) rfl (by kernel_rfl) (by kernel_rfl) (by kernel_rfl) (fun _ _ _ h => h) (Or.inl ⟨by kernel_rfl, fun W hW => ?y32⟩) hHeld ?r32
      · go_simp
      refine' wpAnyH_take (i := 6) (v := .pointer (some ⟨p, 4, none⟩)) rfl (by kernel_rfl) (by kernel_rfl) (by kernel_rfl) (fun _ _ _ h => h) (Or.inl ⟨by kernel_rfl, fun W hW => ?y33⟩) hHeld ?r33
      · go_simp
      refine' wpAnyH_take (i := 7) (v := .int .i64 k) rfl (by kernel_rfl) (by kernel_rfl) (by kernel_rfl) (fun _ _ _ h => h) (Or.inl ⟨by kernel_rfl, fun W hW => ?y34⟩) hHeld ?r34
      · have c := (R2' W hW).2
        go_simp
      refine wpAnyH_ready (rs := [8]) (by kernel_rfl) (by simp) ?_
      refine AllReadyH.cons rfl (fun K hK => ?_) AllReadyH.nil
      go_simp
      refine hK.out _ _ t3 (fun hHeld => ?_)
      clear hK
      refine wpAnyH_done (by kernel_rfl) ?_ _
      refine NoPanic.normal ?_
      go_wp2_with fail
      go_ret
      exact ⟨rfl, _, ⟨_, _, _, hD⟩, fun k q => Or.inl q, TK⟩
    · have e0 : numb s l = ({ counted s with off := true, fs := if td then l else s.fs }, 63) := numb_power (by rw [← HK.out]; exact ha) rfl
      rw [e0]
      cases td with
      | false =>
        have hlp := losePower39 hD
        clear e0 htr ha1 hok
        unfold ptr at hlp
        go_enter Try.func46, Try.ntmps46
        go_wp2_with fail
        refine wp_region_noPanic ?_
        refine wp_region_held_drew (S := fun W => Turn no w1 W) (by kernel_rfl) (Turn.refl _ w1).drew (fun hHeld => ?_)
        refine' wpAnyH_take (i := 0) (v := .pointer (some ⟨p, 0, none⟩)) rfl (by kernel_rfl) (by kernel_rfl) (by kernel_rfl) (fun _ _ _ h => h) (Or.inl ⟨by kernel_rfl, fun W hW => ?y35⟩) hHeld ?r35
        · go_simp
        refine' wpAnyH_take (i := 1) (v := .pointer (some ⟨p, 0, none⟩)) rfl (by kernel_rfl) (by kernel_rfl) (by kernel_rfl) (fun _ _ _ h => h) (Or.inl ⟨by kernel_rfl, fun W hW => ?y36⟩) hHeld ?r36
        · go_simp
        refine' wpAnyH_take (i := 2) (v := .pointer (some ⟨p, 5, none⟩)) rfl (by kernel_rfl) (by kernel_rfl) (by kernel_rfl) (fun _ _ _ h => h) (Or.inl ⟨by kernel_rfl, fun W hW => ?y37⟩) hHeld ?r37
        · go_simp
        refine' wpAnyH_take (i := 3) (v := .map (some b)) rfl (by kernel_rfl) (by kernel_rfl) (by kernel_rfl) (fun _ _ _ h => h) (Or.inl ⟨by kernel_rfl, fun W hW => ?y38⟩) hHeld ?r38
        · have c := (R1' W hW).1
          go_simp
        refine' wpAnyH_take (i := 4) (v := .pointer (some ⟨p, 0, none⟩)) rfl (by kernel_rfl) (by kernel_rfl) (by kernel_rfl) (fun _ _ _ h => h) (Or.inl ⟨by kernel_rfl, fun W hW => ?y39⟩) hHeld ?r39
        · go_simp
        refine' wpAnyH_take (i := 5) (v := .pointer (some ⟨p, 0, none⟩)) rfl (by kernel_rfl) (by kernel_rfl) (by kernel_rfl) (fun _ _ _ h => h) (Or.inl ⟨by kernel_rfl, fun W hW => ?y40⟩) hHeld ?r40
        · go_simp
        refine' wpAnyH_take (i := 6) (v := .pointer (some ⟨p, 4, none⟩)) rfl (by kernel_rfl) (by kernel_rfl) (by kernel_rfl) (fun _ _ _ h => h) (Or.inl ⟨by kernel_rfl, fun W hW => ?y41⟩) hHeld ?r41
        · go_simp
        refine' wpAnyH_take (i := 7) (v := .int .i64 k) rfl (by kernel_rfl) (by kernel_rfl) (by kernel_rfl) (fun _ _ _ h => h) (Or.inl ⟨by kernel_rfl, fun W hW => ?y42⟩) hHeld ?r42
        · have c := (R1' W hW).2
          go_simp
        refine' wpAnyH_take (i := 8) (v := .agg #[.int .i64 tw, .int .i64 2, .bool false]) rfl (by kernel_rfl) (by kernel_rfl) (by kernel_rfl) (fun _ _ _ h => h) (Or.inl ⟨by kernel_rfl, fun W hW => ?y43⟩) hHeld ?r43
        · have c := hl W hW
          go_simp
        refine wpAnyH_ready (rs := [9]) (by kernel_rfl) (by simp) ?_
        refine AllReadyH.cons rfl (fun K hK => ?_) AllReadyH.nil
        go_simp
        refine hK.out _ _ (by first | exact ((Turn.refl no w1).alloc _).drew | exact T2) (fun hHeld => ?_)
        clear hK
        refine wpAnyH_ready (rs := [10]) (by kernel_rfl) (by simp) ?_
        refine AllReadyH.cons rfl (fun K hK => ?_) AllReadyH.nil
        go_simp
        rw [HW2.out]
        refine hK.out _ _ T2 (fun hHeld => ?_)
        clear hK
        refine wpAnyH_done (by kernel_rfl) ?_ _
        refine NoPanic.normal ?_
        go_wp2_with fail
        refine wp_region_noPanic ?_
        refine wp_region_held_drew (S := fun W => Turn (fun q => q = b) w2 W) (by kernel_rfl) (Turn.refl _ w2).drew (fun hHeld => ?_)
        refine' wpAnyH_take (i := 0) (v := .pointer (some ⟨p, 0, none⟩)) rfl (by kernel_rfl) (by kernel_rfl) (by kernel_rfl) (fun _ _ _ h => h) (Or.inl ⟨by kernel_rfl, fun W hW => ?y44⟩) hHeld ?r44
        · go_simp
        refine' wpAnyH_take (i := 1) (v := .pointer (some ⟨p, 0, none⟩)) rfl (by kernel_rfl) (by kernel_rfl) (by kernel_rfl) (fun _ _ _ h => h) (Or.inl ⟨by kernel_rfl, fun W hW => ?y45⟩) hHeld ?r45
        · go_simp
        refine' wpAnyH_take (i := 2) (v := .pointer (some ⟨p, 5, none⟩)) rfl (by kernel_rfl) (by kernel_rfl) (by kernel_rfl) (fun _ _ _ h => h) (Or.inl ⟨by kernel_rfl, fun W hW => ?y46⟩) hHeld ?r46
        · go_simp
        refine' wpAnyH_take (i := 3) (v := .map (some b)) rfl (by kernel_rfl) (by kernel_rfl) (by kernel_rfl) (fun _ _ _ h => h) (Or.inl ⟨by kernel_rfl, fun W hW => ?y47⟩) hHeld ?r47
        · have c := (R2' W hW).1
          go_simp
        refine' wpAnyH_take (i := 4) (v := .pointer (some ⟨p, 0, none⟩)) rfl (by kernel_rfl) (by kernel_rfl) (by kernel_rfl) (fun _ _ _ h => h) (Or.inl ⟨by kernel_rfl, fun W hW => ?y48⟩) hHeld ?r48
        · go_simp
        refine' wpAnyH_take (i := 5) (v := .pointer (some ⟨p, 0, none⟩)) rfl (by kernel_rfl) (by kernel_rfl) (by kernel_rfl) (fun _ _ _ h => h) (Or.inl ⟨by kernel_rfl, fun W hW => ?y49⟩) hHeld ?r49
        · go_simp
        refine' wpAnyH_take (i := 6) (v := .pointer (some ⟨p, 4, none⟩)) rfl (by kernel_rfl) (by kernel_rfl) (by kernel_rfl) (fun _ _ _ h => h) (Or.inl ⟨by kernel_rfl, fun W hW => ?y50⟩) hHeld ?r50
        · go_simp
        refine' wpAnyH_take (i := 7) (v := .int .i64 k) rfl (by kernel_rfl) (by kernel_rfl) (by kernel_rfl) (fun _ _ _ h => h) (Or.inl ⟨by kernel_rfl, fun W hW => ?y51⟩) hHeld ?r51
        · have c := (R2' W hW).2
          go_simp
        refine wpAnyH_ready (rs := [8]) (by kernel_rfl) (by simp) ?_
        refine AllReadyH.cons rfl (fun K hK => ?_) AllReadyH.nil
        go_simp
        refine hK.out _ _ t3 (fun hHeld => ?_)
        clear hK
        refine wpAnyH_done (by kernel_rfl) ?_ _
        refine NoPanic.normal ?_
        go_wp2_with fail
        refine hlp.mono ?_
        rintro e w4 ⟨rfl, hD', hT4⟩
        go_wp2_with fail
        go_ret
        refine ⟨rfl, _, ⟨_, _, _, hD'⟩, fun k q => Or.inl q, TK.trans hT4 (fun _ _ q => Or.inl (by rw [q]; exact hkp))⟩
      | true =>
        clear e0 htr ha1 hok
        go_enter Try.func46, Try.ntmps46
        go_wp2_with fail
        refine wp_region_noPanic ?_
        refine wp_region_held_drew (S := fun W => Turn no w1 W) (by kernel_rfl) (Turn.refl _ w1).drew (fun hHeld => ?_)
        refine' wpAnyH_take (i := 0) (v := .pointer (some ⟨p, 0, none⟩)) rfl (by kernel_rfl) (by kernel_rfl) (by kernel_rfl) (fun _ _ _ h => h) (Or.inl ⟨by kernel_rfl, fun W hW => ?y52⟩) hHeld ?r52
        · go_simp
        refine' wpAnyH_take (i := 1) (v := .pointer (some ⟨p, 0, none⟩)) rfl (by kernel_rfl) (by kernel_rfl) (by kernel_rfl) (fun _ _ _ h => h) (Or.inl ⟨by kernel_rfl, fun W hW => ?y53⟩) hHeld ?r53
        · go_simp
        refine' wpAnyH_take (i := 2) (v := .pointer (some ⟨p, 5, none⟩)) rfl (by kernel_rfl) (by kernel_rfl) (by kernel_rfl) (fun _ _ _ h => h) (Or.inl ⟨by kernel_rfl, fun W hW => ?y54⟩) hHeld ?r54
        · go_simp
        refine' wpAnyH_take (i := 3) (v := .map (some b)) rfl (by kernel_rfl) (by kernel_rfl) (by kernel_rfl) (fun _ _ _ h => h) (Or.inl ⟨by kernel_rfl, fun W hW => ?y55⟩) hHeld ?r55
        · have c := (R1' W hW).1
          go_simp
        refine' wpAnyH_take (i := 4) (v := .pointer (some ⟨p, 0, none⟩)) rfl (by kernel_rfl) (by kernel_rfl) (by kernel_rfl) (fun _ _ _ h => h) (Or.inl ⟨by kernel_rfl, fun W hW => ?y56⟩) hHeld ?r56
        · go_simp
        refine' wpAnyH_take (i := 5) (v := .pointer (some ⟨p, 0, none⟩)) rfl (by kernel_rfl) (by kernel_rfl) (by kernel_rfl) (fun _ _ _ h => h) (Or.inl ⟨by kernel_rfl, fun W hW => ?y57⟩) hHeld ?r57
        · go_simp
        refine' wpAnyH_take (i := 6) (v := .pointer (some ⟨p, 4, none⟩)) rfl (by kernel_rfl) (by kernel_rfl) (by kernel_rfl) (fun _ _ _ h => h) (Or.inl ⟨by kernel_rfl, fun W hW => ?y58⟩) hHeld ?r58
        · go_simp
        refine' wpAnyH_take (i := 7) (v := .int .i64 k) rfl (by kernel_rfl) (by kernel_rfl) (by kernel_rfl) (fun _ _ _ h => h) (Or.inl ⟨by kernel_rfl, fun W hW => ?y59⟩) hHeld ?r59
        · have c := (R1' W hW).2
          go_simp
        refine' wpAnyH_take (i := 8) (v := .agg #[.int .i64 tw, .int .i64 2, .bool true]) rfl (by kernel_rfl) (by kernel_rfl) (by kernel_rfl) (fun _ _ _ h => h) (Or.inl ⟨by kernel_rfl, fun W hW => ?y60⟩) hHeld ?r60
        · have c := hl W hW
          go_simp
        refine wpAnyH_ready (rs := [9]) (by kernel_rfl) (by simp) ?_
        refine AllReadyH.cons rfl (fun K hK => ?_) AllReadyH.nil
        go_simp
        refine hK.out _ _ (by first | exact ((Turn.refl no w1).alloc _).drew | exact T2) (fun hHeld => ?_)
        clear hK
        refine wpAnyH_ready (rs := [10]) (by kernel_rfl) (by simp) ?_
        refine AllReadyH.cons rfl (fun K hK => ?_) AllReadyH.nil
        go_simp
        rw [HW2.out]
        refine hK.out _ _ T2 (fun hHeld => ?_)
        clear hK
        refine wpAnyH_done (by kernel_rfl) ?_ _
        refine NoPanic.normal ?_
        go_wp2_with fail
        refine wp_region_noPanic ?_
        refine wp_region_held_drew (S := fun W => Turn (fun q => q = b) w2 W) (by kernel_rfl) (Turn.refl _ w2).drew (fun hHeld => ?_)
        refine' wpAnyH_take (i := 0) (v := .pointer (some ⟨p, 0, none⟩)) rfl (by kernel_rfl) (by kernel_rfl) (by kernel_rfl) (fun _ _ _ h => h) (Or.inl ⟨by kernel_rfl, fun W hW => ?y61⟩) hHeld ?r61
        · go_simp
        refine' wpAnyH_take (i := 1) (v := .pointer (some ⟨p, 0, none⟩)) rfl (by kernel_rfl) (by kernel_rfl) (by kernel_rfl) (fun _ _ _ h => h) (Or.inl ⟨by kernel_rfl, fun W hW => ?y62⟩) hHeld ?r62
        · go_simp
        refine' wpAnyH_take (i := 2) (v := .pointer (some ⟨p, 5, none⟩)) rfl (by kernel_rfl) (by kernel_rfl) (by kernel_rfl) (fun _ _ _ h => h) (Or.inl ⟨by kernel_rfl, fun W hW => ?y63⟩) hHeld ?r63
        · go_simp
        refine' wpAnyH_take (i := 3) (v := .map (some b)) rfl (by kernel_rfl) (by kernel_rfl) (by kernel_rfl) (fun _ _ _ h => h) (Or.inl ⟨by kernel_rfl, fun W hW => ?y64⟩) hHeld ?r64
        · have c := (R2' W hW).1
          go_simp
        refine' wpAnyH_take (i := 4) (v := .pointer (some ⟨p, 0, none⟩)) rfl (by kernel_rfl) (by kernel_rfl) (by kernel_rfl) (fun _ _ _ h => h) (Or.inl ⟨by kernel_rfl, fun W hW => ?y65⟩) hHeld ?r65
        · go_simp
        refine' wpAnyH_take (i := 5) (v := .pointer (some ⟨p, 0, none⟩)) rfl (by kernel_rfl) (by kernel_rfl) (by kernel_rfl) (fun _ _ _ h => h) (Or.inl ⟨by kernel_rfl, fun W hW => ?y66⟩) hHeld ?r66
        · go_simp
        refine' wpAnyH_take (i := 6) (v := .pointer (some ⟨p, 4, none⟩)) rfl (by kernel_rfl) (by kernel_rfl) (by kernel_rfl) (fun _ _ _ h => h) (Or.inl ⟨by kernel_rfl, fun W hW => ?y67⟩) hHeld ?r67
        · go_simp
        refine' wpAnyH_take (i := 7) (v := .int .i64 k) rfl (by kernel_rfl) (by kernel_rfl) (by kernel_rfl) (fun _ _ _ h => h) (Or.inl ⟨by kernel_rfl, fun W hW => ?y68⟩) hHeld ?r68
        · have c := (R2' W hW).2
          go_simp
        refine wpAnyH_ready (rs := [8]) (by kernel_rfl) (by simp) ?_
        refine AllReadyH.cons rfl (fun K hK => ?_) AllReadyH.nil
        go_simp
        refine hK.out _ _ t3 (fun hHeld => ?_)
        clear hK
        refine wpAnyH_done (by kernel_rfl) ?_ _
        refine NoPanic.normal ?_
        go_wp2_with fail
        refine hdo3.mono ?_
        rintro e w4 ⟨rfl, K', V', hD', hF, hT4⟩
        have hlp := losePower39 hD'
        have hkp' := hD'.kp
        unfold ptr at hlp
        go_wp2_with fail
        refine hlp.mono ?_
        rintro e w5 ⟨rfl, hD5, hT5⟩
        go_wp2_with fail
        go_ret
        refine ⟨rfl, K', ⟨_, _, _, hD5⟩, hF, (TK.trans hT4 (fun _ _ q => q)).trans hT5 (fun _ _ q => Or.inl (by rw [q]; exact hkp))⟩
end
end Go.Proofs.Ytcdogciacchigab
