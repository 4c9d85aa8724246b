/- The digest of pieces (newMixer, sumOf). -/
import Derived.Test.YtieoomdbijpdhaaDoorD5
namespace Go.Proofs.YtieoomdbijpdhaaDoor
open Go.RowKit
set_option linter.unusedVariables false

theorem size29 : (Tryd.prog.info? 127).map (·.size) = some 73 := by kernel_rfl
def mx0 : Array Value := (h0.map (Value.int .u32) ++ (List.replicate 64 (bv 0) ++ [Value.int .u64 0])).toArray
theorem mx0_size : mx0.size = 73 := by simp [mx0, h0]
theorem mx0_one : mx0.all (·.oneCell') = true := by kernel_rfl
theorem mx0_is : MxA mx0 0 h0 (List.replicate 64 0) 0 := by
  refine ⟨fun j hj => ?_, by simp, fun j hj => ?_, ?_⟩
  · have : j = 0 ∨ j = 1 ∨ j = 2 ∨ j = 3 ∨ j = 4 ∨ j = 5 ∨ j = 6 ∨ j = 7 := by omega
    rcases this with rfl | rfl | rfl | rfl | rfl | rfl | rfl | rfl <;> rfl
  · unfold mx0
    have e8 : (h0.map (Value.int .u32)).length = 8 := rfl
    rw [List.getElem?_toArray, List.getElem?_append_right (by omega), List.getElem?_append_left (by rw [List.length_replicate]; omega), e8, show 0 + 8 + j - 8 = j by omega, List.getElem?_replicate, if_pos hj, List.getD_eq_getElem?_getD, List.getElem?_replicate, if_pos hj]
    rfl
  · rfl

set_option maxRecDepth 100000 in
set_option maxHeartbeats 4000000 in
theorem newMixer_any (w : World) : Calls Tryd.prog 80 #[] w fun e w' => e = .returned (.agg mx0) ∧ Turn no w w' := by
  go_enter Tryd.func80, Tryd.ntmps80
  go_wp2_with (refine wpList_store_row rfl 127 (.tmp 0) (.tmp 2) rfl w.heap.size _ rfl rfl 127 _ (heap_alloc_new w _) (by kernel_rfl) rfl (by kernel_rfl) ?_)
  refine bodyPost_ret (v := .agg mx0) ?_ rfl ⟨rfl, ((Turn.refl no w).alloc _).setRow _ _ (fun q => by omega)⟩
  refine results_cell_row (P := Tryd.prog) Tryd.results80 _ _ w.heap.size 127 mx0 (0, 0) _ rfl ?_ Tryd.underlying127 rfl (by kernel_rfl)
  rw [setRow_heap _ _ _ _ _ _ (heap_alloc_new w _)]
  kernel_rfl

/-- Pieces as they lie in memory. -/
def Pcs (w : World) (b o : Nat) (l : List (Value × List UInt8)) : Prop := ∀ j x, l[j]? = some x → w.cell? ⟨b, o + j, none⟩ = some x.1 ∧ Bs w x.1 x.2
theorem Pcs.turn_no {w w' : World} {b o : Nat} {l : List (Value × List UInt8)} (h : Pcs w b o l) (t : Turn no w w') : Pcs w' b o l :=
  fun j x hx => ⟨t.keep (h j x hx).1 (fun q => q), (h j x hx).2.turn_no t⟩
def joined (l : List (Value × List UInt8)) : List UInt8 := (l.map (·.2)).flatten

theorem joined_take_le (l : List (Value × List UInt8)) (k : Nat) : (joined (l.take k)).length ≤ (joined l).length := by
  have : joined l = joined (l.take k) ++ joined (l.drop k) := by
    unfold joined
    rw [← List.flatten_append, ← List.map_append, List.take_append_drop]
  rw [this]
  simp
theorem joined_succ (l : List (Value × List UInt8)) (k : Nat) (h : k < l.length) : joined (l.take (k + 1)) = joined (l.take k) ++ l[k].2 := by
  unfold joined
  rw [List.take_succ_eq_append_getElem h, List.map_append, List.flatten_append]
  simp

theorem Bs.old {w : World} {v : Value} {B : List UInt8} (h : Bs w v B) (hB : B ≠ []) : ∀ g, v.ownBlock = some g → g < w.heap.size := by
  intro g hg
  rcases h with ⟨q, r⟩ | ⟨a, c, rfl, _, _, h3⟩
  · exact (hB r).elim
  · cases hg
    have hp : 0 < B.length := by
      cases B with
      | nil => exact (hB rfl).elim
      | cons => simp
    have := World.block_lt_of_cell? w _ (h3 0 B[0] (by simp [hp]))
    simpa [Addr.add] using this

set_option maxRecDepth 100000 in
set_option maxHeartbeats 4000000 in
theorem sumOf_any (w : World) (b o cap : Nat) (l : List (Value × List UInt8)) (hP : Pcs w b o l) (hl0 : l ≠ []) (hll : l.length ≤ 1000) (hl : Laid1 w) (h2 : 2 ≤ w.heap.size) (hsz : (joined l).length + 72 ≤ 281474976710656) :
    Calls Tryd.prog 52 #[.slice (some ⟨b, o, none⟩) l.length cap] w fun e w' => e = .returned (.agg ((hashOf (joined l)).map bv).toArray) ∧ Turn no w w' := by
  have hlp : 0 < l.length := by cases l with | nil => exact (hl0 rfl).elim | cons => simp
  have hbw : b < w.heap.size := World.block_lt_of_cell? w _ (hP 0 l[0] (by simp [hlp])).1
  go_enter Tryd.func52, Tryd.ntmps52
  go_wp2_with fail
  refine (newMixer_any _).mono ?_
  rintro e w1 ⟨rfl, t1⟩
  have hi : (Tryd.prog.info? 127).map (·.size) = some mx0.size := by rw [mx0_size]; exact size29
  go_wp2_with (refine wpList_store_row rfl 127 (.tmp 3) (.tmp 6) rfl w1.heap.size mx0 rfl rfl 127 _ (heap_alloc_new w1 _) hi (by kernel_rfl) mx0_one ?_)
  rw [World.setRow_alloc_new]
  obtain ⟨z0, R0, hz0⟩ : ∃ z0, Row w1 w.heap.size z0 23 ∧ z0.size = 32 := ⟨_, (Row.new w _ 23).turn t1 (fun q => q), rfl⟩
  have T1 : Turn no w w1 := ((Turn.refl no w).alloc _).then_no t1
  have hq : w.heap.size < w1.heap.size := R0.lt
  clear t1
  go_loopw [9] (fun c wr => ∃ (k : Nat), k ≤ l.length ∧ c = .int .i64 k ∧ Mx wr w1.heap.size 0 127 73 (joined (l.take k)) ∧ (∃ z, Row wr w.heap.size z 23 ∧ z.size = 32) ∧ Turn no w wr) (fun c _ => l.length - (intOf c).toNat)
  case atStart => exact ⟨0, Nat.zero_le _, rfl, ⟨mx0, List.replicate 64 0, Row.new w1 _ _, mx0_size, by simpa [joined, shaW, shaP] using mx0_is, by simp [joined, tailOf]⟩, ⟨z0, R0.alloc _, hz0⟩, T1.alloc _⟩
  case round =>
    clear R0 T1 hz0
    obtain ⟨k, hk, rfl, M, ⟨z, Rz, hz⟩, T⟩ := hrel
    by_cases hlt : k < l.length
    · have hlt' : (k : Int) < (l.length : Int) := by omega
      have hx := hP k l[k] (by simp [hlt])
      have hx' := hP.turn_no T k l[k] (by simp [hlt])
      have hjs := joined_succ l k hlt
      have hjl := joined_take_le l (k + 1)
      rw [hjs, List.length_append] at hjl
      generalize l[k] = x at *
      obtain ⟨xv, xb⟩ := x
      simp only at hx hx' hjs hjl
      have cx := hx'.1
      have htk := take_any wr w1.heap.size 0 127 (joined (l.take k)) xv xb 73 M hx'.2 (fun q g r e => by have := hx.2.old q g r; omega) (hl.turn T (fun q => q)) (by omega) (by omega)
      rw [← hjs] at htk
      go_wp2_with fail
      refine htk.mono ?_
      rintro e w5 ⟨rfl, M5, T5⟩
      go_wp2_with fail
      go_roundw
      case rel => exact ⟨k + 1, by omega, by go_num, M5, ⟨z, Rz.turn T5 (by omega), hz⟩, T.trans T5 (fun i hi q => by omega)⟩
      case measure => simp [intOf]; omega
    · have hlt' : ¬ (k : Int) < (l.length : Int) := by omega
      have hkl : k = l.length := by omega
      rw [hkl, List.take_length] at M
      obtain ⟨ar, rs, Rm, hsm, Mm, hrs⟩ := M
      have hsum := sum_any wr ar (joined l) rs hsm Mm hrs (hl.turn T (fun q => q)) (by have := T.size; omega) hsz
      have him : (Tryd.prog.info? 127).map (·.size) = some ar.size := by rw [hsm]; exact size29
      have hlen := hashOf_len (joined l)
      have hH : ((hashOf (joined l)).map bv).toArray.size = 32 := by simpa using hlen
      have hH1 : ((hashOf (joined l)).map bv).toArray.all (·.oneCell') = true := by simp [bv, Value.oneCell']
      have hih : (Tryd.prog.info? 23).map (·.size) = some ((hashOf (joined l)).map bv).toArray.size := by rw [hH]; exact size35
      generalize hE : ((hashOf (joined l)).map bv).toArray = hv at *
      have HE : Hid (((hashOf (joined l)).map bv).toArray = hv) := hE
      clear hE
      clear hlen Mm hrs
      go_wp2_with (refine wpList_load_row rfl 127 (.tmp 3) rfl w1.heap.size rfl 127 ar (0, 0) _ Rm Tryd.underlying127 rfl him ?_)
      refine hsum.mono ?_
      rintro e w6 ⟨rfl, t6⟩
      have Rz6 := Rz.turn t6 (fun q => q)
      have T6 := T.then_no t6
      go_wp2_with (refine wpList_store_row rfl 23 (.tmp 2) (.tmp 17) rfl w.heap.size hv rfl rfl 23 z Rz6 hih (by omega) hH1 ?_)
      refine bodyPost_ret (v := .agg hv) ?_ rfl ⟨by rw [HE.out], T6.setRow _ _ (fun q => by omega)⟩
      exact results_cell_row (P := Tryd.prog) Tryd.results52 _ _ w.heap.size 23 hv (0, 0) _ rfl (setRow_heap _ _ _ _ _ _ Rz6) Tryd.underlying23 rfl hih
end Go.Proofs.YtieoomdbijpdhaaDoor

