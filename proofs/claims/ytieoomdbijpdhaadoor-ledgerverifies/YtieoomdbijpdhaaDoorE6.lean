/- roomy; the reference's Leaf. -/
import Derived.Test.YtieoomdbijpdhaaDoorE4
import Derived.Test.YtieoomdbijpdhaaDoorE5
namespace Go.Proofs.YtieoomdbijpdhaaDoor
open Go.RowKit
set_option linter.unusedVariables false

theorem rsum_all (w : World) (va : Value) (bs : List UInt8) (hb : Bs w va bs) (hl : Laid0 w) (h2 : 2 ≤ w.heap.size) (hsz : bs.length ≤ 140737488355328) :
    Calls Tryd.prog 34 #[va] w fun e w' => e = .returned (.agg (hv bs)) ∧ Turn no w w' := by
  by_cases h0 : bs = []
  · subst h0
    obtain ⟨a, c, rfl⟩ := hb.slice
    exact rsum_none w a c hb hl h2
  · exact rsum_any w va bs hb hl h2 hsz (by cases bs with | nil => exact (h0 rfl).elim | cons => simp)

theorem src_two (w : World) (a b : UInt8) : Src Tryd.prog 1 60 (.slice (some ⟨w.heap.size, 0, none⟩) 2 2) 2 (List.map bv [a, b]) (w.alloc (.cells #[bv a, bv b] 5)) :=
  Bs.src (P := Tryd.prog) Tryd.underlying60 (row_bs (X := [a, b]) (Row.new w #[bv a, bv b] 5) (by simp [maxLen]))

set_option maxRecDepth 100000 in
set_option maxHeartbeats 4000000 in
theorem leafText_any (w : World) (va : Value) (bs : List UInt8) (hb : Bs w va bs) (hsz : bs.length + 1 ≤ 140737488355328) :
    Calls Tryd.prog 61 #[va] w fun e w' => ∃ v, e = .returned v ∧ Own w' 5 v ((0 :: bs).map bv) ∧ Turn no w w' := by
  have S := fun W (t : Turn no w W) => Bs.src (P := Tryd.prog) Tryd.underlying60 (hb.turn_no t)
  obtain ⟨a, c, rfl⟩ := hb.slice
  have hl : (bs.map bv).length = bs.length := by simp
  have hjoin : (0 :: bs).map bv = List.map bv [0] ++ bs.map bv := by simp
  rw [hjoin]
  generalize bs.map bv = BL at *
  have O1 := own_one w 0
  have S1 := S _ ((Turn.refl no w).alloc (.cells #[bv 0] 5))
  clear hjoin S
  go_enter Tryd.func61, Tryd.ntmps61
  go_wp2_with (at_builtin; refine wpList_append_src rfl (.tmp 5) (.tmp 6) rfl Tryd.underlying60 Tryd.info5 rfl _ (List.map bv [0]) rfl O1 _ bs.length BL rfl S1 ?b1 ?m1 ?_)
  case b1 => simp; omega
  case m1 => simp [maxLen]; omega
  intro v2 w2 O2 G2 _
  have T2 : Turn no w w2 := ((Turn.refl no w).alloc (.cells #[bv 0] 5)).fresh G2 (fun g q => by simp [Value.ownBlock] at q; omega)
  have O2' : Own w2 5 v2 (List.map bv [0] ++ BL) := by simpa using O2
  obtain ⟨ad, ln, cp, rfl⟩ := O2.form
  go_wp2_with fail
  go_ret
  exact ⟨_, rfl, O2', T2⟩

set_option maxRecDepth 100000 in
set_option maxHeartbeats 4000000 in
theorem leaf21 (w : World) (va : Value) (bs : List UInt8) (hb : Bs w va bs) (hl : Laid0 w) (h2 : 2 ≤ w.heap.size) (hsz : bs.length + 1 ≤ 140737488355328) :
    Calls Tryd.prog 38 #[va] w fun e w' => e = .returned (.agg (hv (0 :: bs))) ∧ Turn no w w' := by
  have htext := fun W (t : Turn no w W) => leafText_any W va bs (hb.turn_no t) hsz
  have hsum := fun W (T : Turn no w W) v (O : Own W 5 v ((0 :: bs).map bv)) => rsum_all W v (0 :: bs) O.bs (hl.turn T (fun q => q)) (by have := T.size; omega) (by simp; omega)
  obtain ⟨a, c, rfl⟩ := hb.slice
  have h1 := hv_one (0 :: bs)
  have hs := hv_size (0 :: bs)
  have hi := hv_info (0 :: bs)
  generalize hv (0 :: bs) = H at *
  generalize (0 :: bs).map bv = TX at *
  clear hb
  go_enter Tryd.func38, Tryd.ntmps38
  go_wp2_with fail
  refine (htext _ ((Turn.refl no w).alloc _)).mono ?_
  rintro e w3 ⟨v3, rfl, O3, t3⟩
  obtain ⟨z, RZ3, hzs⟩ : ∃ z, Row w3 w.heap.size z 23 ∧ z.size = 32 := ⟨_, (Row.new w _ 23).turn t3 (fun q => q), rfl⟩
  have T3 : Turn no w w3 := ((Turn.refl no w).alloc _).then_no t3
  have hc := hsum _ T3 _ O3
  obtain ⟨ad3, ln3, cp3, rfl⟩ := O3.form
  clear hsum htext t3
  go_wp2_with fail
  refine hc.mono ?_
  rintro e w5 ⟨rfl, t5⟩
  have RZ5 := RZ3.turn t5 (fun q => q)
  have T5 := T3.then_no t5
  go_wp2_with (refine wpList_store_row rfl 23 (.tmp 2) (.tmp 5) rfl w.heap.size H rfl rfl 23 z RZ5 hi (by omega) h1 ?_)
  refine bodyPost_ret (v := .agg H) ?_ rfl ⟨rfl, T5.setRow _ _ (fun q => by omega)⟩
  exact results_cell_row (P := Tryd.prog) Tryd.results38 _ _ w.heap.size 23 H (0, 0) _ rfl (setRow_heap _ _ _ _ _ _ RZ5) Tryd.underlying23 rfl hi

end Go.Proofs.YtieoomdbijpdhaaDoor

