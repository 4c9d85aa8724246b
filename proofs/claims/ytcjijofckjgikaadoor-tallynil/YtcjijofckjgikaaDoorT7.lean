/- find of a tally with one vote. -/
import Derived.Test.YtcjijofckjgikaaDoorT6
namespace Go.Proofs.YtcjijofckjgikaaDoor
open Go.RowKit
open Go.ChangeMaps (setBlock)
set_option linter.unusedVariables false

theorem wp_unroll {P : Program} {c : Code} {Q : Exit → Act → World → Prop} {a : Act} {w : World} (n : Nat) (h : ∀ K : Act → World → Prop, (∀ a w, Code.rounds P c Q n a w → K a w) → c.wp P (Exit.then K Q) a w) : Code.rounds P c Q (n + 1) a w := h _ (fun _ _ h => h)
/-- The place's cells. -/
def kC : List Value := [.int .i64 1, .int .i64 0, .int .i64 0]
theorem info74 : (Tryd.prog.info? 74).map (fun i => (i.zero, i.size, i.bytes)) = some (some (.agg #[.int .i64 0, .int .i64 0, .int .i64 0]), 3, 24) := by kernel_rfl
theorem src_k (w W : World) (T : Turn no (w.alloc (.cells #[.int .i64 1, .int .i64 0, .int .i64 0] 74)) W) : Src Tryd.prog 3 76 (.slice (some ⟨w.heap.size, 0, none⟩) 1 1) 1 kC W := by
  refine Src.ofSlice _ Tryd.underlying76 _ _ _ _ rfl (fun j u hu => ?_) (by simp [kC, Value.oneCell'])
  refine T.keep ?_ (fun q => q)
  rw [Addr.add_lit, cell_of_row _ w.heap.size (0 + j) _ 74 (0, 0) (heap_alloc_new w _)]
  rw [Nat.zero_add]
  simpa [kC] using hu
theorem OwnN.place {w : World} {v : Value} (h : OwnN w 74 3 v 1 kC) : ∃ x c, v = .slice (some ⟨x, 0, none⟩) 1 c ∧ w.rangeAt x 0 kC := by
  rcases h.2 with ⟨rfl, h1⟩ | ⟨x, c, cur, rfl, _, hg, h1, h2, h3, h4⟩
  · simp at h1
  · refine ⟨x, c, rfl, fun j u hu => ?_⟩
    rw [cell_of_row w x (0 + j) cur 74 (0, 0) hg, Nat.zero_add]
    have hj : j < 3 := by have := (List.getElem?_eq_some_iff.1 hu).1; simpa [kC] using this
    rw [← h4, List.getElem?_take, if_pos (by omega)] at hu
    simpa using hu
set_option maxRecDepth 100000 in
set_option maxHeartbeats 4000000 in
theorem find25 (w : World) (p m g cap bk br bf bt q : Nat) (v : Vt) (hv : v.ok) (h : Tl w p m g cap) (hm : w.heap[m]? = some (.map #[⟨k0, .agg v.cs.toArray, 0⟩] 1)) (hc : Cap w p bk br bf bt q v) :
    Calls Tryd.prog 25 #[.pointer (some ⟨p, 0, none⟩), .func (.func 45) #[] #[.pointer (some ⟨bk, 0, none⟩), .pointer (some ⟨br, 0, none⟩), .pointer (some ⟨bf, 0, none⟩), .pointer (some ⟨bt, 0, none⟩)]] w fun e w' =>
      ∃ x c, e = .returned (.slice (some ⟨x, 0, none⟩) 1 c) ∧ w'.rangeAt x 0 kC ∧ Turn no w w' := by
  have c4 := h.c4
  have r0 := range1 w m _ hm
  have cm := fun W (t : Turn no w W) => meant45 W p m g cap bk br bf bt q v hv (h.turn t (fun q => q) (fun q => q)) (obj_turn hm t (fun q => q)) (hc.turn t)
  have HM := shut hm
  clear h hc hm
  generalize v.cs.toArray = C at *
  go_enter Tryd.func25, Tryd.ntmps25
  go_wp2_with fail
  obtain ⟨w1, hw1⟩ : ∃ w1, w.alloc (.mapIter (some m) 1 #[] 1) = w1 := ⟨_, rfl⟩
  have T1 : Turn no w w1 := by rw [← hw1]; exact (Turn.refl no w).alloc _
  have I1 : w1.heap[w.heap.size]? = some (.mapIter (some m) 1 #[] 1) := by rw [← hw1]; exact heap_alloc_new w _
  rw [hw1]
  clear hw1 r0 c4
  obtain ⟨w1', hw1', n1⟩ := next1 w1 0 w.heap.size m _ I1 (obj_turn HM.out T1 (fun q => q))
  have T1' : Turn no w w1' ∧ w1'.heap = w1.heap := by
    rcases hw1' with rfl | rfl
    · exact ⟨T1, rfl⟩
    · exact ⟨T1.then_no (Turn.refl no w1).drew, rfl⟩
  have T2 : Turn no w (setBlock w1' w.heap.size (.mapIter (some m) 1 #[0] 1)) := T1'.1.trans (setBlock_turn _) (fun k hk q => by have q : k = w.heap.size := q; omega)
  have I2 : (setBlock w1' w.heap.size (.mapIter (some m) 1 #[0] 1)).heap[w.heap.size]? = some (.mapIter (some m) 1 #[0] 1) := setBlock_at _ (by rw [T1'.2]; exact lt_of_obj I1)
  generalize setBlock w1' w.heap.size (.mapIter (some m) 1 #[0] 1) = w2 at *
  clear hw1' T1' T1 I1
  have e2 := entry1 w2 w.heap.size m _ I2 (obj_turn HM.out T2 (fun q => q))
  have cm2 := cm _ (T2.then_no ((Turn.refl no w2).alloc (.cells #[.int .i64 1, .int .i64 0, .int .i64 0] 74)))
  unfold k0 at n1 e2 cm2
  refine wp_loop_rounds 2 (wp_unroll 1 fun K0 hK0 => ?_)
  have HT2 := shut T2
  have HI2 := shut I2
  clear T2 I2 cm
  have HD : Shut (Row (w2.alloc (.cells #[.int .i64 1, .int .i64 0, .int .i64 0] 74)) w2.heap.size #[.int .i64 1, .int .i64 0, .int .i64 0] 74) := Row.new w2 _ 74
  go_wp2_with (first | (go_at_call 45; refine cm2.mono ?_; rintro e w3 ⟨rfl, t3⟩; have D := HD.out.turn t3 (fun q => q); have d0 : w3.cell? ⟨w2.heap.size, 0, none⟩ = some (.int .i64 1) := D.cell 0 _ rfl; have d1 : w3.cell? ⟨w2.heap.size, 1, none⟩ = some (.int .i64 0) := D.cell 1 _ rfl; have d2 : w3.cell? ⟨w2.heap.size, 2, none⟩ = some (.int .i64 0) := D.cell 2 _ rfl; have HT3 := shut ((HT2.out.alloc _).then_no t3); have HI3 := shut (obj_turn HI2.out (((Turn.refl no w2).alloc _).then_no t3) (fun q => q)); clear D t3 HD HT2 HI2) | (at_builtin; refine wpList_append_srcN rfl (.tmp 19) (.tmp 21) rfl Tryd.underlying76 info74 rfl (by decide) (.slice none 0 0) 0 [] rfl (OwnN.nil _ _ _) (.slice (some ⟨w3.heap.size, 0, none⟩) 1 1) 1 kC rfl (src_k w3 _ (Turn.refl no _)) (by decide) (by decide) ?_; intro v4 w4 O4 G4))
  have O4' : OwnN w4 74 3 v4 1 kC := O4
  obtain ⟨x, c, rfl, hr⟩ := O4'.place
  have t4 : Turn no w3 w4 := ((Turn.refl no w3).alloc _).trans G4.turn (fun k hk q => by cases q)
  have T4 := HT3.out.then_no t4
  have I4 := obj_turn HI3.out t4 (fun q => q)
  have n2 := next2 w4 0 w.heap.size m _ I4 (obj_turn HM.out T4 (fun q => q))
  have cs := sort25 w4 (some ⟨x, 0, none⟩) c (.func (.func 44) #[] #[])
  have HT4 := shut T4
  have HR4 := shut hr
  clear O4 O4' G4 t4 T4 I4 HT3 HI3 hr e2 n1 cm2 HM d0 d1 d2
  refine wp_unroll 0 fun K1 hK1 => ?_
  go_wp2_with (go_at_call 43; refine cs.mono ?_; rintro e w5 ⟨rfl, e5⟩; subst e5)
  go_ret
  exact ⟨x, c, rfl, HR4.out, HT4.out⟩
end Go.Proofs.YtcjijofckjgikaaDoor
