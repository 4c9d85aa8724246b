/- Lead; down. -/
import Derived.Test.YtlacfenenbblaaaGreatDoorK4
namespace Go.Proofs.YtlacfenenbblaaaGreatDoor
open Go.RowKit
set_option linter.unusedVariables false

/-- The top that an item and the digests beside its way lead to. -/
def leadH (n a : Nat) (A : List (List UInt8)) (x : List UInt8) : List UInt8 := upH n a A (hashOf (0 :: x))
theorem leadH_len (n a : Nat) (A : List (List UInt8)) (x : List UInt8) : (leadH n a A x).length = 32 := upH_len n a A _ (hashOf_len _)
set_option maxRecDepth 100000 in
set_option maxHeartbeats 4000000 in
theorem lead30 (w : World) (n a' : Nat) (A : List (List UInt8)) (a : Option Addr) (cap : Nat) (v : Value) (x : List UInt8) (h1 : 1 ≤ n) (h65 : n ≤ 65536) (ha : a' < n) (hA : A.length = stepsN n a') (hH : HsAt w a cap A) (hb : Bs w v x) (hx : x.length ≤ 1048576) (hl : Laid0 w) (h2 : 2 ≤ w.heap.size) : Calls Tryz.prog 70 #[.int .i64 n, .int .i64 a', .slice a A.length cap, v] w fun e w' => e = .returned (.agg (hb32 (leadH n a' A x))) ∧ Turn no w w' := by
  have ll := leadH_len n a' A x
  have sL := hb32_size ll
  have oL := hb32_one (leadH n a' A x)
  have iL := hb32_info ll
  have sF := hv_size (0 :: x)
  have oF := hv_one (0 :: x)
  have iF := hv_info (0 :: x)
  have hZ := hb32_size z32_len
  have hzv := zero35v
  obtain ⟨w0, hw0⟩ : ∃ w0, w.alloc (.cells (hb32 z32) 29) = w0 := ⟨_, rfl⟩
  have T0 : Turn no w w0 := by rw [← hw0]; exact (Turn.refl no w).alloc _
  have RZ : Row w0 w.heap.size (hb32 z32) 29 := by rw [← hw0]; exact Row.new w _ 29
  have hf := leaf21 w0 v x (hb.turn_no T0) (hl.turn T0 (fun q => q)) (by have := T0.size; omega) (by omega)
  have UP : Shut (∀ W, Turn no w W → Calls Tryz.prog 36 #[.int .i64 n, .int .i64 a', .slice a A.length cap, .agg (hv (0 :: x))] W fun e w' => e = .returned (.agg (hb32 (leadH n a' A x))) ∧ Turn no W w') := fun W T => up_any n a' A a cap (hashOf (0 :: x)) W h1 h65 ha hA (hH.turn_no T) (hashOf_len _) (hl.turn T (fun q => q)) (by have := T.size; omega)
  obtain ⟨xa, xc, rfl⟩ := hb.slice
  generalize hb32 (leadH n a' A x) = LD at *
  generalize hv (0 :: x) = LF at *
  generalize hb32 z32 = Z at *
  generalize x.length = m at *
  generalize A.length = L at *
  clear hH hb hA ll
  go_enter Tryz.func70, Tryz.ntmps70
  go_upto_region 1 with fail
  try rw [hw0]
  clear hw0
  go_upto_region 2 with (first | (go_at_call 35; refine hf.mono ?_; clear hf; rintro e w1 ⟨rfl, t1⟩) | (guard_target =~ wpList _ _ _ ({ dst := _, op := Op.store 29 _ _, .. } :: _) _ _; refine wpList_store_anyN rfl rfl 29 (.tmp 9) (.tmp 11) rfl _ LF rfl rfl 29 Z (Row.new _ Z 29) iF (by rw [hZ, sF]) oF ?_; intro w2 R2 t2))
  have T12 : Turn (fun q => q = w1.heap.size) w1 w2 := ((Turn.refl no w1).alloc _).of_no.trans t2 (fun _ _ e => e)
  have T02 := t1.trans T12 (fun i hi e => by have := t1.size; omega)
  have RZ2 := Row.turn RZ T02 (fun q => q)
  have T2 := T0.then_no T02
  have up := UP.out w2 T2
  clear T12 T02 t1 t2 RZ T0
  generalize w1.heap.size = g9 at *
  go_wp2_with (first | (guard_target =~ wpList _ _ _ ({ dst := _, op := Op.load 29 _, .. } :: _) _ _; refine wpList_load_row rfl 29 (.tmp 9) rfl g9 rfl 29 LF _ _ R2 Tryz.underlying29 rfl iF ?_) | (go_at_call 36; refine up.mono ?_; clear up; rintro e w3 ⟨rfl, t3⟩; have RZ3 := Row.turn RZ2 t3 (fun q => q); have T3 := T2.then_no t3) | (guard_target =~ wpList _ _ _ ({ dst := _, op := Op.store 29 _ _, .. } :: _) _ _; refine wpList_store_row rfl 29 (.tmp 8) (.tmp 16) rfl w.heap.size LD rfl rfl 29 Z RZ3 iL (by rw [hZ, sL]) oL ?_))
  refine bodyPost_ret (v := .agg LD) ?_ rfl ⟨rfl, T3.setRow _ _ (fun q => by omega)⟩
  exact results_cell_row (P := Tryz.prog) Tryz.results70 _ _ w.heap.size 29 LD (0, 0) _ rfl (setRow_heap _ _ _ _ _ _ RZ3) Tryz.underlying29 rfl iL
set_option maxRecDepth 100000 in
set_option maxHeartbeats 8000000 in
theorem down_one (w : World) (v u : Value) (x y : List UInt8) (b o ca : Nat) (i : Int) (a : Option Addr) (cap : Nat) (c0 : w.cell? ⟨b, o, none⟩ = some v) (hv1 : Bs w v x) (hu1 : Bs w u y) (hx : x.length ≤ 1048576) (hy : y.length ≤ 1048576) (ht : hashOf (0 :: x) = hashOf (0 :: y)) (hl : Laid0 w) (h2 : 2 ≤ w.heap.size) :
    Calls Tryz.prog 71 #[.slice (some ⟨b, o, none⟩) 1 ca, .int .i64 i, .slice a 0 cap, u] w fun e w' => Sc (x = y) w e w' := by
  have HC : Shut (∀ W, Turn no w W → W.cell? ⟨b, o, none⟩ = some v) := fun W T => T.keep c0 (fun q => q)
  have HT : Shut (∀ W, Turn no w W → (convert 48 9 v).run Tryz.prog W = .ok (.string ⟨x.toArray⟩) W ∧ (convert 48 9 u).run Tryz.prog W = .ok (.string ⟨y.toArray⟩) W) := fun W T => ⟨bytes_text (hv1.turn_no T), bytes_text (hu1.turn_no T)⟩
  have hq : Shut (((⟨x.toArray⟩ : ByteArray).toList == (⟨y.toArray⟩ : ByteArray).toList) = (x == y)) := by show _ = _; rw [text_list, text_list]
  have L1 : Shut (∀ W, Turn no w W → Calls Tryz.prog 67 #[v] W fun e w' => ∃ z, e = .returned z ∧ Bs w' z (0 :: x) ∧ Turn no W w') := fun W T => (leafText_any W v x (hv1.turn_no T) (by omega)).mono (fun e w' ⟨z, e1, o, t⟩ => ⟨z, e1, o.bs, t⟩)
  have L2 : Shut (∀ W, Turn no w W → Calls Tryz.prog 67 #[u] W fun e w' => ∃ z, e = .returned z ∧ Bs w' z (0 :: y) ∧ Turn no W w') := fun W T => (leafText_any W u y (hu1.turn_no T) (by omega)).mono (fun e w' ⟨z, e1, o, t⟩ => ⟨z, e1, o.bs, t⟩)
  have CL : Shut (∀ W, Turn no w W → ∀ z z', Bs W z (0 :: x) → Bs W z' (0 :: y) → Calls Tryz.prog 15 #[z, z'] W fun e w' => e = .returned (.bool (clB (0 :: x) (0 :: y))) ∧ Turn no W w') := fun W T z z' h1 h2' => clash26 W z z' _ _ h1 h2' (by simp; omega) (by simp; omega) (hl.turn T (fun q => q)) (by have := T.size; omega)
  obtain ⟨xa, xc, hv⟩ := hv1.slice
  obtain ⟨ya, yc, hu⟩ := hu1.slice
  have hcl : Shut ((x == y) = false → clB (0 :: x) (0 :: y) = true) := fun q => clB_leaf (by simpa using q) ht
  generalize clB (0 :: x) (0 :: y) = cl at *
  generalize (⟨x.toArray⟩ : ByteArray) = tx at *
  generalize (⟨y.toArray⟩ : ByteArray) = ty at *
  have hxy : Shut ((x == y) = true → x = y) := fun q => by simpa using q
  obtain ⟨PX, hPX⟩ : ∃ P : Prop, P = (x = y) := ⟨_, rfl⟩
  rw [← hPX] at hxy ⊢
  clear hPX
  generalize (x == y) = q1 at *
  generalize 0 :: x = TX at *
  generalize 0 :: y = TY at *
  subst hv hu
  generalize x.length = nx at *
  generalize y.length = ny at *
  clear c0 hv1 hu1 ht
  go_enter Tryz.func71, Tryz.ntmps71
  go_upto_region 2 with fail
  refine wp_region_held_drew (S := fun W => Turn no w W) (by kernel_rfl) (Turn.refl no w).drew (fun hHeld => ?_)
  refine' wpAnyH_take (i := 0) (v := .slice a 0 cap) rfl (by kernel_rfl) (by kernel_rfl) (by kernel_rfl) (fun _ _ _ h => h) (Or.inl ⟨by kernel_rfl, fun W hW => ?y1⟩) hHeld ?r1
  · go_simp
  refine' wpAnyH_take (i := 1) (v := .int .i64 0) rfl (by kernel_rfl) (by kernel_rfl) (by kernel_rfl) (fun _ _ _ h => h) (Or.inl ⟨by kernel_rfl, fun W hW => ?y2⟩) hHeld ?r2
  · go_simp
  refine' wpAnyH_take (i := 2) (v := .bool true) rfl (by kernel_rfl) (by kernel_rfl) (by kernel_rfl) (fun _ _ _ h => h) (Or.inl ⟨by kernel_rfl, fun W hW => ?y3⟩) hHeld ?r3
  · go_simp
  refine' wpAnyH_take (i := 3) (v := .bool true) rfl (by kernel_rfl) (by kernel_rfl) (by kernel_rfl) (fun _ _ _ h => h) (Or.inl ⟨by kernel_rfl, fun W hW => ?y4⟩) hHeld ?r4
  · go_simp
  refine' wpAnyH_take (i := 4) (v := .slice (some ⟨b, o, none⟩) 1 ca) rfl (by kernel_rfl) (by kernel_rfl) (by kernel_rfl) (fun _ _ _ h => h) (Or.inl ⟨by kernel_rfl, fun W hW => ?y5⟩) hHeld ?r5
  · go_simp
  refine' wpAnyH_take (i := 5) (v := .pointer (some ⟨b, o, none⟩)) rfl (by kernel_rfl) (by kernel_rfl) (by kernel_rfl) (fun _ _ _ h => h) (Or.inl ⟨by kernel_rfl, fun W hW => ?y6⟩) hHeld ?r6
  · go_simp
  refine' wpAnyH_take (i := 6) (v := .slice xa nx xc) rfl (by kernel_rfl) (by kernel_rfl) (by kernel_rfl) (fun _ _ _ h => h) (Or.inl ⟨by kernel_rfl, fun W hW => ?y7⟩) hHeld ?r7
  · have z := HC.out W hW
    go_simp
  refine' wpAnyH_take (i := 7) (v := .string tx) rfl (by kernel_rfl) (by kernel_rfl) (by kernel_rfl) (fun _ _ _ h => h) (Or.inl ⟨by kernel_rfl, fun W hW => ?y8⟩) hHeld ?r8
  · have z := (HT.out W hW).1
    go_simp
  refine' wpAnyH_take (i := 8) (v := .slice ya ny yc) rfl (by kernel_rfl) (by kernel_rfl) (by kernel_rfl) (fun _ _ _ h => h) (Or.inl ⟨by kernel_rfl, fun W hW => ?y9⟩) hHeld ?r9
  · go_simp
  refine' wpAnyH_take (i := 9) (v := .string ty) rfl (by kernel_rfl) (by kernel_rfl) (by kernel_rfl) (fun _ _ _ h => h) (Or.inl ⟨by kernel_rfl, fun W hW => ?y10⟩) hHeld ?r10
  · have z := (HT.out W hW).2
    go_simp
  refine' wpAnyH_take (i := 10) (v := .bool q1) rfl (by kernel_rfl) (by kernel_rfl) (by kernel_rfl) (fun _ _ _ h => h) (Or.inl ⟨by kernel_rfl, fun W hW => ?y11⟩) hHeld ?r11
  · have z := hq.out
    go_simp
  refine' wpAnyH_take (i := 11) (v := .bool q1) rfl (by kernel_rfl) (by kernel_rfl) (by kernel_rfl) (fun _ _ _ h => h) (Or.inl ⟨by kernel_rfl, fun W hW => ?y12⟩) hHeld ?r12
  · go_simp
  refine wpAnyH_done (by kernel_rfl) ?_ _
  go_simp
  have HT1 := shut hHeld
  have T1 := hHeld
  clear hHeld
  cases q1 with
  | true =>
    go_wp2_with fail
    go_ret2
    exact Sc.mk true false rfl ⟨rfl, fun _ => hxy.out (by trivial)⟩ HT1.out
  | false =>
    have hc1 := shut (hcl.out rfl)
    have z0 := HC.out _ T1
    have l1 := L1.out _ T1
    go_wp2_with (first | (go_at_call 67; refine l1.mono ?_; clear l1; rintro e w3 ⟨z3, rfl, b3, t3⟩; have T3 := T1.then_no t3; have l2 := L2.out _ T3) | (go_at_call 67; refine l2.mono ?_; clear l2; rintro e w4 ⟨z4, rfl, b4, t4⟩; have T4 := T3.then_no t4; have c1 := CL.out w4 T4 z3 z4 (b3.turn_no t4) b4) | (go_at_call 15; refine c1.mono ?_; clear c1; rintro e w5 ⟨rfl, t5⟩))
    go_ret2
    exact Sc.mk false cl rfl ⟨by rw [hc1.out]; rfl, fun h => by cases h⟩ (T4.then_no t5)
end Go.Proofs.YtlacfenenbblaaaGreatDoor

