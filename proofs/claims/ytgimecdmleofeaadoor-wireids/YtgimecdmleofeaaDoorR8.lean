/- TxId, BlockId, CertId of the program. -/
import Derived.Test.YtgimecdmleofeaaDoorR3
import Derived.Test.YtgimecdmleofeaaDoorIa
import Derived.Test.YtgimecdmleofeaaDoorIb
import Derived.Test.YtgimecdmleofeaaDoorIc
import Derived.Test.YtgimecdmleofeaaDoorI1
namespace Go.Proofs.YtgimecdmleofeaaDoor
open Go.RowKit
set_option linter.unusedVariables false

set_option maxRecDepth 100000 in
set_option maxHeartbeats 4000000 in
theorem txId5 (w : World) (hl : Laid1 w) (h2 : 3 ≤ w.heap.size) (x : Tx) (ho : x.ok) :
    Calls Tryd.prog 5 #[.agg x.cs.toArray] w fun e w' => e = .returned (.tuple #[.agg (hb32 (idH (plainT x) (leB 16 1 ++ (txB x ++ x.se)))), .int .i64 (plainT x)]) ∧ Turn no w w' := by
  have hZ := hb32_size z32_len
  have oZ := hb32_one z32
  have iZ := hb32_info z32_len
  have hzv := zero35v
  have hbd := shut bld35
  obtain ⟨w2, hw2⟩ : ∃ W, (w.alloc (.cells (x.cs).toArray 27)).alloc (.cells (hb32 z32) 29) = W := ⟨_, rfl⟩
  have r1 : Row w2 w.heap.size (x.cs).toArray 27 := by rw [← hw2]; exact (Row.new w _ 27).alloc _
  have r2 : Row w2 (w.heap.size + 1) (hb32 z32) 29 := by rw [← hw2]; exact Row.newAt _ _ 29 _ (by simp)
  have t2 : Turn no w w2 := by rw [← hw2]; exact ((Turn.refl no w).alloc _).alloc _
  have cr := Row.rangeZ r1
  have hz : (Tryd.prog.info? 27).map (·.size) = some x.cs.length := by rw [x.len ho]; exact size27
  have sB : (txB x ++ x.se).length ≤ 1000000000 := by
    have := varE_le x.fr
    have := varE_le x.to
    have := varE_le x.am
    have := varE_le x.fe
    have := varE_le x.no
    have := leB_length x.k.toNat 1
    have := ho.1
    simp [txB]
    omega
  have C := idOf19 w2 (hl.turn t2 (fun q => q)) (by have := t2.size; omega) x.cs hz _ sB (plainT x) (fun W _ => plain27 W x) (fun h0 W p v bs _ hw hb _ _ => laySealed21 W p v bs hw x ho (plainT_kind h0).1 (plainT_kind h0).2 (by omega)) 16 (by omega)
  have hlen := idH_len (plainT x) (leB 16 1 ++ (txB x ++ x.se))
  generalize idH (plainT x) (leB 16 1 ++ (txB x ++ x.se)) = X at *
  generalize plainT x = pv at *
  generalize x.cs = D at *
  have sD := hb32_size hlen
  have oD := hb32_one X
  have iD := hb32_info hlen
  generalize hb32 X = H at *
  generalize hb32 z32 = Z at *
  generalize hA : D.toArray = A at *
  have HA := shutX hA
  clear hA
  go_enter Tryd.func5, Tryd.ntmps5
  go_upto_region 1 with fail
  try rw [hw2]
  clear hw2
  go_wp2_with (first | (guard_target =~ wpList _ _ _ ({ dst := _, op := Op.load 27 _, .. } :: _) _ _; refine wpList_load_mid rfl 27 (.tmp 1) rfl w.heap.size 0 rfl D _ cr Tryd.underlying27 rfl hz ?_; rw [HA.out]) | (go_at_call 19; refine C.mono ?_; clear C; rintro e w3 ⟨rfl, t3⟩; have R3 := Row.turn r2 t3 (fun q => q)) | (guard_target =~ wpList _ _ _ ({ dst := _, op := Op.store 29 _ _, .. } :: _) _ _; refine wpList_store_row rfl 29 (.tmp 2) (.tmp 6) rfl (w.heap.size + 1) H rfl rfl 29 Z R3 iD (by rw [hZ, sD]) oD ?_))
  refine bodyPost_ret (v := .tuple #[.agg H, .int .i64 pv]) ?_ rfl ⟨rfl, (t2.then_no t3).setRow _ _ (fun q => by omega)⟩
  exact results_cell_row_tmp (P := Tryd.prog) Tryd.results5 _ _ (w.heap.size + 1) 29 H (0, 0) _ rfl (setRow_heap _ _ _ _ _ _ R3) Tryd.underlying29 rfl iD
/-- The id that stands in for none. -/
def oneId : List UInt8 := List.replicate 31 0 ++ [1]
def someH (X : List UInt8) : List UInt8 := if X == zid then oneId else X
theorem someH_len {X : List UInt8} (h : X.length = 32) : (someH X).length = 32 := by
  unfold someH
  split
  · rfl
  · exact h
theorem one_set : (hb32 zid).setIfInBounds 31 (.int .u8 1) = hb32 oneId := by kernel_rfl
set_option maxRecDepth 100000 in
set_option maxHeartbeats 4000000 in
theorem someId25 (w : World) (X : List UInt8) (hX : X.length = 32) :
    Calls Tryd.prog 25 #[.agg (hb32 X)] w fun e w' => e = .returned (.agg (hb32 (someH X))) ∧ Turn no w w' := by
  have hZ := hb32_size z32_len
  have hzv := zero35v
  have iX := hb32_info hX
  have sX := hb32_size hX
  have oX := hb32_one X
  obtain ⟨w2, hw2⟩ : ∃ W, (w.alloc (.cells (hb32 X) 29)).alloc (.cells (hb32 z32) 29) = W := ⟨_, rfl⟩
  have r1 : Row w2 w.heap.size (hb32 X) 29 := by rw [← hw2]; exact (Row.new w _ 29).alloc _
  have r2 : Row w2 (w.heap.size + 1) (hb32 z32) 29 := by rw [← hw2]; exact Row.newAt _ _ 29 _ (by simp)
  have t2 : Turn no w w2 := by rw [← hw2]; exact ((Turn.refl no w).alloc _).alloc _
  have C := none15 w2 X hX
  by_cases hq : X = zid
  · subst hq
    have e0 : someH zid = oneId := by unfold someH; simp
    rw [e0]
    have C : Calls Tryd.prog 64 #[.agg (hb32 zid)] w2 fun e w' => e = .returned (.bool true) ∧ Turn no w2 w' := by
      have C' := C
      rw [show (zid == zid) = true by simp] at C'
      exact C'
    have hs1 := one_set
    have i1 : (Tryd.prog.info? 29).map (·.size) = some (hb32 oneId).size := hb32_info rfl
    have s1 : (hb32 oneId).size = 32 := rfl
    have o1 := hb32_one oneId
    have HR : ∀ W, Row W w.heap.size (hb32 zid) 29 → Row (W.setCell ⟨w.heap.size, 31, none⟩ (.int .u8 1)) w.heap.size (hb32 oneId) 29 := fun W r => by
      have := cells_set 31 (.int .u8 1) r
      rw [hs1] at this
      exact this
    have c31 : ∀ W, Row W w.heap.size (hb32 zid) 29 → W.cell? ⟨w.heap.size, 31, none⟩ = some (.int .u8 0) ∧ W.frozen? ⟨w.heap.size, 31, none⟩ = false := fun W r => ⟨r.cell 31 _ rfl, frozen_of_row W w.heap.size 31 _ 29 r⟩
    have HC31 := shutX (And.intro HR c31)
    clear hs1 HR c31
    have cr := Row.rangeZ r1
    generalize hb32 zid = Y at *
    generalize hb32 oneId = H at *
    generalize hb32 z32 = Z at *
    go_enter Tryd.func25, Tryd.ntmps25
    go_upto_region 1 with fail
    try rw [hw2]
    clear hw2
    go_upto_region 2 with (first | (guard_target =~ wpList _ _ _ ({ dst := _, op := Op.load 29 _, .. } :: _) _ _; refine wpList_load_row rfl 29 (.tmp 1) rfl w.heap.size rfl 29 Y _ _ r1 Tryd.underlying29 rfl iX ?_) | (go_at_call 64; refine C.mono ?_; clear C; rintro e w3 ⟨rfl, t3⟩))
    have R1 := Row.turn r1 t3 (fun q => q)
    have R2 := Row.turn r2 t3 (fun q => q)
    obtain ⟨d1, d2⟩ := HC31.out.2 w3 R1
    go_upto_region 3 with fail
    obtain ⟨w4, hw4⟩ : ∃ X, w3.setCell ⟨w.heap.size, 31, none⟩ (.int .u8 1) = X := ⟨_, rfl⟩
    have R3 : Row w4 w.heap.size H 29 := by rw [← hw4]; exact HC31.out.1 w3 R1
    have t4 : Turn (fun z => z = w.heap.size) w3 w4 := by rw [← hw4]; exact Turn.setCell (S := fun z => z = w.heap.size) (p := ⟨w.heap.size, 31, none⟩) (Turn.refl _ w3) (fun _ => rfl) _
    have R4 : Row w4 (w.heap.size + 1) Z 29 := Row.turn R2 t4 (fun q => by have q : w.heap.size + 1 = w.heap.size := q; omega)
    rw [hw4]
    go_wp2_with (first | (guard_target =~ wpList _ _ _ ({ dst := _, op := Op.load 29 _, .. } :: _) _ _; refine wpList_load_row rfl 29 (.tmp 1) rfl w.heap.size rfl 29 H _ _ R3 Tryd.underlying29 rfl i1 ?_) | (guard_target =~ wpList _ _ _ ({ dst := _, op := Op.store 29 _ _, .. } :: _) _ _; refine wpList_store_row rfl 29 (.tmp 2) (.tmp 6) rfl (w.heap.size + 1) H rfl rfl 29 Z R4 i1 (by rw [hZ, s1]) o1 ?_))
    refine bodyPost_ret (v := .agg H) ?_ rfl ⟨rfl, ((t2.then_no t3).trans t4 (fun i hi q => by omega)).setRow _ _ (fun q => by omega)⟩
    exact results_cell_row (P := Tryd.prog) Tryd.results25 _ _ (w.heap.size + 1) 29 H (0, 0) _ rfl (setRow_heap _ _ _ _ _ _ R4) Tryd.underlying29 rfl i1
  · have hb : (X == zid) = false := by simpa using hq
    have e0 : someH X = X := by unfold someH; rw [hb]; rfl
    rw [e0]
    rw [hb] at C
    have C : Calls Tryd.prog 64 #[.agg (hb32 X)] w2 fun e w' => e = .returned (.bool false) ∧ Turn no w2 w' := C
    clear hq hb e0
    generalize hb32 X = H at *
    generalize hb32 z32 = Z at *
    go_enter Tryd.func25, Tryd.ntmps25
    go_upto_region 1 with fail
    try rw [hw2]
    clear hw2
    go_upto_region 3 with (first | (guard_target =~ wpList _ _ _ ({ dst := _, op := Op.load 29 _, .. } :: _) _ _; refine wpList_load_row rfl 29 (.tmp 1) rfl w.heap.size rfl 29 H _ _ r1 Tryd.underlying29 rfl iX ?_) | (go_at_call 64; refine C.mono ?_; clear C; rintro e w3 ⟨rfl, t3⟩))
    have R1 := Row.turn r1 t3 (fun q => q)
    have R2 := Row.turn r2 t3 (fun q => q)
    go_wp2_with (first | (guard_target =~ wpList _ _ _ ({ dst := _, op := Op.load 29 _, .. } :: _) _ _; refine wpList_load_row rfl 29 (.tmp 1) rfl w.heap.size rfl 29 H _ _ R1 Tryd.underlying29 rfl iX ?_) | (guard_target =~ wpList _ _ _ ({ dst := _, op := Op.store 29 _ _, .. } :: _) _ _; refine wpList_store_row rfl 29 (.tmp 2) (.tmp 6) rfl (w.heap.size + 1) H rfl rfl 29 Z R2 iX (by rw [hZ, sX]) oX ?_))
    refine bodyPost_ret (v := .agg H) ?_ rfl ⟨rfl, (t2.then_no t3).setRow _ _ (fun q => by omega)⟩
    exact results_cell_row (P := Tryd.prog) Tryd.results25 _ _ (w.heap.size + 1) 29 H (0, 0) _ rfl (setRow_heap _ _ _ _ _ _ R2) Tryd.underlying29 rfl iX
theorem plainH_ch {x : Hd} (h : plainH x = 0) : x.ch.size ≤ 16 := by
  unfold plainH at h
  cases hc : cB x.ch with
  | false => rw [hc] at h; simp [fieldE] at h
  | true =>
    unfold cB at hc
    simp at hc
    omega
theorem hdB_le {x : Hd} (ho : x.ok) (h : plainH x = 0) : (hdB x).length ≤ 1000 := by
  have := plainH_ch h
  have := varE_le x.ch.size
  have := varE_le x.h
  have := varE_le x.t
  have := varE_le x.pr
  have := x.ids_len ho
  have hcl : x.ch.data.toList.length = x.ch.size := by simp
  simp only [hdB, List.length_append]
  omega
/-- What is digested of a header, if it is plain. -/
def hdS (x : Hd) : List UInt8 := if plainH x = 0 then hdB x else []
theorem hdS_le {x : Hd} (ho : x.ok) : (hdS x).length ≤ 1000 := by
  unfold hdS
  split
  · rename_i h; exact hdB_le ho h
  · simp
/-- A block's id. -/
def blockH (x : Hd) : List UInt8 := if plainH x = 0 then someH (hashOf (leB 17 1 ++ hdS x)) else z32
theorem blockH_len (x : Hd) : (blockH x).length = 32 := by
  unfold blockH
  split
  · exact someH_len (hashOf_len _)
  · rfl
set_option maxRecDepth 100000 in
set_option maxHeartbeats 4000000 in
theorem blockId6 (w : World) (hl : Laid1 w) (h2 : 3 ≤ w.heap.size) (x : Hd) (ho : x.ok) :
    Calls Tryd.prog 6 #[.agg x.cs.toArray] w fun e w' => e = .returned (.tuple #[.agg (hb32 (blockH x)), .int .i64 (plainH x)]) ∧ Turn no w w' := by
  have hZ := hb32_size z32_len
  have oZ := hb32_one z32
  have iZ := hb32_info z32_len
  have hzv := zero35v
  have hbd := shut bld35
  obtain ⟨w2, hw2⟩ : ∃ W, (w.alloc (.cells (x.cs).toArray 31)).alloc (.cells (hb32 z32) 29) = W := ⟨_, rfl⟩
  have r1 : Row w2 w.heap.size (x.cs).toArray 31 := by rw [← hw2]; exact (Row.new w _ 31).alloc _
  have r2 : Row w2 (w.heap.size + 1) (hb32 z32) 29 := by rw [← hw2]; exact Row.newAt _ _ 29 _ (by simp)
  have t2 : Turn no w w2 := by rw [← hw2]; exact ((Turn.refl no w).alloc _).alloc _
  have cr := Row.rangeZ r1
  have hz := x.info ho
  have C := idOf22 w2 (hl.turn t2 (fun q => q)) (by have := t2.size; omega) x.cs hz (hdS x) (by have := hdS_le ho; omega) (plainH x) (fun W _ => plain23 W x ho) (fun h0 W p v bs _ hw hb _ _ => by
    have e : hdS x = hdB x := if_pos h0
    rw [e]
    exact layHeader24 W p v bs hw x ho (plainH_ch h0) (by omega)) 17 (by omega)
  by_cases he : plainH x = 0
  · have e1 : blockH x = someH (hashOf (leB 17 1 ++ hdS x)) := if_pos he
    have e2 : idH (plainH x) (leB 17 1 ++ hdS x) = hashOf (leB 17 1 ++ hdS x) := if_pos he
    rw [e1]
    rw [e2] at C
    rw [he] at C ⊢
    have hX := hashOf_len (leB 17 1 ++ hdS x)
    generalize hashOf (leB 17 1 ++ hdS x) = X at *
    have D1 := fun W => someId25 W X hX
    have iS := hb32_info (someH_len hX)
    have sS := hb32_size (someH_len hX)
    have oS := hb32_one (someH X)
    have iX := hb32_info hX
    have sX := hb32_size hX
    have oX := hb32_one X
    have HD := shutX D1
    clear D1 he e1 e2
    generalize hb32 (someH X) = H at *
    generalize hb32 X = Y at *
    generalize x.cs = D at *
    generalize hb32 z32 = Z at *
    generalize hA : D.toArray = A at *
    have HA := shutX hA
    clear hA
    go_enter Tryd.func6, Tryd.ntmps6
    go_upto_region 1 with fail
    try rw [hw2]
    clear hw2
    go_upto_region 2 with (first | (guard_target =~ wpList _ _ _ ({ dst := _, op := Op.load 31 _, .. } :: _) _ _; refine wpList_load_mid rfl 31 (.tmp 1) rfl w.heap.size 0 rfl D _ cr Tryd.underlying31 rfl hz ?_; rw [HA.out]) | (go_at_call 22; refine C.mono ?_; clear C; rintro e w3 ⟨rfl, t3⟩) | (guard_target =~ wpList _ _ _ ({ dst := _, op := Op.store 29 _ _, .. } :: _) _ _; refine wpList_store_any rfl 29 (.tmp 4) (.tmp 9) rfl w3.heap.size Y rfl rfl 29 Z (Row.new w3 Z 29) iX (by rw [hZ, sX]) oX ?_; intro w4 R4 t4))
    have tA : Turn (fun z => z = w3.heap.size) w3 w4 := ((Turn.refl _ w3).alloc _).trans t4 (fun _ _ q => q)
    have T4 : Turn no w w4 := (t2.then_no t3).trans tA (fun i hi q => by have := (t2.then_no t3).size; omega)
    have R2 : Row w4 (w.heap.size + 1) Z 29 := Row.turn (Row.turn r2 t3 (fun q => q)) tA (fun q => by have := (Row.turn r2 t3 (fun q => q)).lt; omega)
    have C := HD.out w4
    clear tA t4 cr
    go_wp2_with (first | (guard_target =~ wpList _ _ _ ({ dst := _, op := Op.load 29 _, .. } :: _) _ _; refine wpList_load_row rfl 29 (.tmp 4) rfl w3.heap.size rfl 29 Y _ _ R4 Tryd.underlying29 rfl iX ?_) | (go_at_call 25; refine C.mono ?_; clear C; rintro e w5 ⟨rfl, t5⟩; have R5 := Row.turn R2 t5 (fun q => q)) | (guard_target =~ wpList _ _ _ ({ dst := _, op := Op.store 29 _ _, .. } :: _) _ _; refine wpList_store_row rfl 29 (.tmp 2) (.tmp 16) rfl (w.heap.size + 1) H rfl rfl 29 Z R5 iS (by rw [hZ, sS]) oS ?_))
    refine bodyPost_ret (v := .tuple #[.agg H, .int .i64 0]) ?_ rfl ⟨rfl, (T4.then_no t5).setRow _ _ (fun q => by omega)⟩
    exact results_cell_row_tmp (P := Tryd.prog) Tryd.results6 _ _ (w.heap.size + 1) 29 H (0, 0) _ rfl (setRow_heap _ _ _ _ _ _ R5) Tryd.underlying29 rfl iS
  · have e1 : blockH x = z32 := if_neg he
    rw [e1]
    have n1 : (plainH x != 0) = true := by simpa using he
    have hX := idH_len (plainH x) (leB 17 1 ++ hdS x)
    generalize idH (plainH x) (leB 17 1 ++ hdS x) = X at *
    have iX := hb32_info hX
    have sX := hb32_size hX
    have oX := hb32_one X
    generalize plainH x = pv at *
    clear he e1
    generalize hb32 X = Y at *
    generalize x.cs = D at *
    generalize hb32 z32 = Z at *
    generalize hA : D.toArray = A at *
    have HA := shutX hA
    clear hA
    go_enter Tryd.func6, Tryd.ntmps6
    go_upto_region 1 with fail
    try rw [hw2]
    clear hw2
    go_upto_region 2 with (first | (guard_target =~ wpList _ _ _ ({ dst := _, op := Op.load 31 _, .. } :: _) _ _; refine wpList_load_mid rfl 31 (.tmp 1) rfl w.heap.size 0 rfl D _ cr Tryd.underlying31 rfl hz ?_; rw [HA.out]) | (go_at_call 22; refine C.mono ?_; clear C; rintro e w3 ⟨rfl, t3⟩) | (guard_target =~ wpList _ _ _ ({ dst := _, op := Op.store 29 _ _, .. } :: _) _ _; refine wpList_store_any rfl 29 (.tmp 4) (.tmp 9) rfl w3.heap.size Y rfl rfl 29 Z (Row.new w3 Z 29) iX (by rw [hZ, sX]) oX ?_; intro w4 R4 t4))
    have tA : Turn (fun z => z = w3.heap.size) w3 w4 := ((Turn.refl _ w3).alloc _).trans t4 (fun _ _ q => q)
    have T4 : Turn no w w4 := (t2.then_no t3).trans tA (fun i hi q => by have := (t2.then_no t3).size; omega)
    have R2 : Row w4 (w.heap.size + 1) Z 29 := Row.turn (Row.turn r2 t3 (fun q => q)) tA (fun q => by have := (Row.turn r2 t3 (fun q => q)).lt; omega)
    clear tA t4 cr hzv
    go_wp2_with (first | (guard_target =~ wpList _ _ _ ({ dst := _, op := Op.build 29 _, .. } :: _) _ _; refine wpList_buildG (by kernel_rfl) 29 rfl _ (hbd.out _) ?_) | (guard_target =~ wpList _ _ _ ({ dst := _, op := Op.store 29 _ _, .. } :: _) _ _; refine wpList_store_row rfl 29 (.tmp 2) (.tmp 13) rfl (w.heap.size + 1) Z rfl rfl 29 Z R2 iZ rfl oZ ?_))
    refine bodyPost_ret (v := .tuple #[.agg Z, .int .i64 pv]) ?_ rfl ⟨rfl, T4.setRow _ _ (fun q => by omega)⟩
    exact results_cell_row_tmp (P := Tryd.prog) Tryd.results6 _ _ (w.heap.size + 1) 29 Z (0, 0) _ rfl (setRow_heap _ _ _ _ _ _ R2) Tryd.underlying29 rfl iZ
theorem scanM_ix : ∀ (l : List Mk) (p : Int), scanM p l = 0 → ∀ m ∈ l, 0 ≤ m.ix ∧ m.ix < 64
  | [], _, _, m, hm => by cases hm
  | x :: r, p, h, m, hm => by
    simp only [scanM] at h
    by_cases h1 : x.ix < 0 ∨ 64 ≤ x.ix ∨ tB x.tm = false
    · rw [if_pos h1] at h; cases h
    · rw [if_neg h1] at h
      by_cases h2 : x.ix ≤ p
      · rw [if_pos h2] at h; cases h
      · rw [if_neg h2] at h
        rcases List.mem_cons.1 hm with rfl | hm
        · exact ⟨by by_cases q : m.ix < 0
                    · exact absurd (.inl q) h1
                    · omega, by by_cases q : 64 ≤ m.ix
                                · exact absurd (.inr (.inl q)) h1
                                · omega⟩
        · exact scanM_ix r x.ix h m hm
/-- What a plain certificate that is not the zero one holds. -/
theorem plainC_some {h : Nat} {r : Int} {id : List UInt8} {l : List Mk} (hz : zeroB h r id l.length = false) (hp : plainC h r id l = 0) : h < 18446744073709551616 ∧ 0 ≤ r ∧ r ≤ 65535 ∧ (∀ m ∈ l, 0 ≤ m.ix ∧ m.ix < 64) ∧ l.length ≤ 64 := by
  unfold plainC at hp
  rw [hz] at hp
  simp only [Bool.false_eq_true, if_false] at hp
  cases hh : headB h r id with
  | false => rw [hh] at hp; simp at hp
  | true =>
    rw [hh] at hp
    simp only [Bool.true_eq_false, if_false] at hp
    unfold headB hB rB at hh
    simp at hh
    by_cases h64 : 64 < l.length
    · rw [if_pos h64] at hp; cases hp
    · rw [if_neg h64] at hp
      exact ⟨by omega, by omega, by omega, scanM_ix l _ hp, by omega⟩
theorem plainC_zero {h : Nat} {r : Int} {id : List UInt8} {l : List Mk} (hz : zeroB h r id l.length = true) : plainC h r id l = 0 := by
  unfold plainC
  rw [if_pos hz]
def ctS (h : Nat) (r : Int) (id : List UInt8) (l : List Mk) : List UInt8 := if zeroB h r id l.length = false ∧ plainC h r id l = 0 then ctB h r id l else []
theorem ctS_le {h : Nat} {r : Int} {id : List UInt8} {l : List Mk} (hid : id.length = 32) (hok : ∀ m ∈ l, m.ok) : (ctS h r id l).length ≤ 10000 := by
  unfold ctS
  split
  · rename_i q
    have := mksB_le l hok
    have := (plainC_some q.1 q.2).2.2.2.2
    have := varE_le h
    have := varE_le r.toNat
    have := varE_le l.length
    simp only [ctB, List.length_append]
    omega
  · simp
/-- A certificate's id. -/
def certH (h : Nat) (r : Int) (id : List UInt8) (l : List Mk) : List UInt8 := if zeroB h r id l.length then z32 else idH (plainC h r id l) (leB 18 1 ++ ctS h r id l)
theorem certH_len (h : Nat) (r : Int) (id : List UInt8) (l : List Mk) : (certH h r id l).length = 32 := by
  unfold certH
  split
  · rfl
  · exact idH_len _ _
set_option maxRecDepth 100000 in
set_option maxHeartbeats 4000000 in
theorem certId7 (w : World) (hl : Laid1 w) (h2 : 3 ≤ w.heap.size) (h : Nat) (r : Int) (id : List UInt8) (hid : id.length = 32) (v : Value) (l : List Mk) (hv : Ks w v l) :
    Calls Tryd.prog 7 #[.agg (ctL h r id v).toArray] w fun e w' => e = .returned (.tuple #[.agg (hb32 (certH h r id l)), .int .i64 (plainC h r id l)]) ∧ Turn no w w' := by
  obtain ⟨a, cap, rfl, hK⟩ := hv
  have hZ := hb32_size z32_len
  have oZ := hb32_one z32
  have iZ := hb32_info z32_len
  have hzv := zero35v
  have hbd := shut bld35
  obtain ⟨w2, hw2⟩ : ∃ W, (w.alloc (.cells (ctL h r id (.slice a l.length cap)).toArray 34)).alloc (.cells (hb32 z32) 29) = W := ⟨_, rfl⟩
  have r1 : Row w2 w.heap.size (ctL h r id (.slice a l.length cap)).toArray 34 := by rw [← hw2]; exact (Row.new w _ 34).alloc _
  have r2 : Row w2 (w.heap.size + 1) (hb32 z32) 29 := by rw [← hw2]; exact Row.newAt _ _ 29 _ (by simp)
  have t2 : Turn no w w2 := by rw [← hw2]; exact ((Turn.refl no w).alloc _).alloc _
  have cr := Row.rangeZ r1
  have hz : (Tryd.prog.info? 34).map (·.size) = some (ctL h r id (.slice a l.length cap)).length := by rw [ctL_len h r id hid]; exact size30a
  have C0 := zero42 w2 h r id hid a l.length cap
  cases hzb : zeroB h r id l.length with
  | true =>
    have e1 : certH h r id l = z32 := if_pos hzb
    rw [e1, plainC_zero hzb]
    rw [hzb] at C0
    clear hzb e1 hK
    generalize ctL h r id (.slice a l.length cap) = D at *
    generalize hb32 z32 = Z at *
    generalize hA : D.toArray = A at *
    have HA := shutX hA
    clear hA
    go_enter Tryd.func7, Tryd.ntmps7
    go_upto_region 1 with fail
    try rw [hw2]
    clear hw2 hzv
    go_wp2_with (first | (guard_target =~ wpList _ _ _ ({ dst := _, op := Op.load 34 _, .. } :: _) _ _; refine wpList_load_mid rfl 34 (.tmp 1) rfl w.heap.size 0 rfl D _ cr Tryd.underlying34 rfl hz ?_; rw [HA.out]) | (go_at_call 26; refine C0.mono ?_; clear C0; rintro e w3 ⟨rfl, t3⟩; have R3 := Row.turn r2 t3 (fun q => q)) | (guard_target =~ wpList _ _ _ ({ dst := _, op := Op.build 29 _, .. } :: _) _ _; refine wpList_buildG (by kernel_rfl) 29 rfl _ (hbd.out _) ?_) | (guard_target =~ wpList _ _ _ ({ dst := _, op := Op.store 29 _ _, .. } :: _) _ _; refine wpList_store_row rfl 29 (.tmp 2) (.tmp 6) rfl (w.heap.size + 1) Z rfl rfl 29 Z R3 iZ rfl oZ ?_))
    refine bodyPost_ret (v := .tuple #[.agg Z, .int .i64 0]) ?_ rfl ⟨rfl, (t2.then_no t3).setRow _ _ (fun q => by omega)⟩
    exact results_cell_row_tmp (P := Tryd.prog) Tryd.results7 _ _ (w.heap.size + 1) 29 Z (0, 0) _ rfl (setRow_heap _ _ _ _ _ _ R3) Tryd.underlying29 rfl iZ
  | false =>
    have e1 : certH h r id l = idH (plainC h r id l) (leB 18 1 ++ ctS h r id l) := if_neg (by rw [hzb]; simp)
    rw [e1]
    rw [hzb] at C0
    have C1 : ∀ W, Turn no w2 W → Calls Tryd.prog 27 #[.int .u8 18, .agg (ctL h r id (.slice a l.length cap)).toArray, .func (.func 28) #[] #[], .func (.func 29) #[] #[]] W fun e w' => e = .returned (.tuple #[.agg (hb32 (idH (plainC h r id l) (leB 18 1 ++ ctS h r id l))), .int .i64 (plainC h r id l)]) ∧ Turn no W w' := fun W t => by
      have tw := t2.then_no t
      exact idOf27 W (hl.turn tw (fun q => q)) (by have := tw.size; omega) _ hz (ctS h r id l) (by have := ctS_le (h := h) (r := r) hid hK.ok; omega) (plainC h r id l) (fun W1 t1 => plain17 W1 h r id hid _ l ⟨a, cap, rfl, hK.turn_no (tw.then_no t1)⟩) (fun h0 W1 p v bs t1 hw hb hp hv => by
        obtain ⟨q1, q2, q3, q4, q5⟩ := plainC_some hzb h0
        have e : ctS h r id l = ctB h r id l := if_pos ⟨hzb, h0⟩
        rw [e]
        exact layCert29 W W1 p v bs h r id hid a cap l (hK.turn_no tw) t1 hw hp hv q1 q2 q3 q4 q5 (by omega)) 18 (by omega)
    have hlen := idH_len (plainC h r id l) (leB 18 1 ++ ctS h r id l)
    have HC1 := shutX C1
    have HR := shutX (fun W (t : Turn no w2 W) => (fun j u hu => t.keep (cr j u hu) (fun q => q) : W.rangeAt w.heap.size 0 (ctL h r id (.slice a l.length cap))))
    clear C1 hzb e1 hK
    generalize idH (plainC h r id l) (leB 18 1 ++ ctS h r id l) = X at *
    generalize plainC h r id l = pv at *
    generalize ctL h r id (.slice a l.length cap) = D at *
    have sD := hb32_size hlen
    have oD := hb32_one X
    have iD := hb32_info hlen
    generalize hb32 X = H at *
    generalize hb32 z32 = Z at *
    generalize hA : D.toArray = A at *
    have HA := shutX hA
    clear hA
    go_enter Tryd.func7, Tryd.ntmps7
    go_upto_region 1 with fail
    try rw [hw2]
    clear hw2
    go_upto_region 3 with (first | (guard_target =~ wpList _ _ _ ({ dst := _, op := Op.load 34 _, .. } :: _) _ _; refine wpList_load_mid rfl 34 (.tmp 1) rfl w.heap.size 0 rfl D _ cr Tryd.underlying34 rfl hz ?_; rw [HA.out]) | (go_at_call 26; refine C0.mono ?_; clear C0; rintro e w3 ⟨rfl, t3⟩))
    clear cr
    have cr := HR.out w3 t3
    have C1 := HC1.out w3 t3
    have R3 := Row.turn r2 t3 (fun q => q)
    go_wp2_with (first | (guard_target =~ wpList _ _ _ ({ dst := _, op := Op.load 34 _, .. } :: _) _ _; refine wpList_load_mid rfl 34 (.tmp 1) rfl w.heap.size 0 rfl D _ cr Tryd.underlying34 rfl hz ?_; rw [HA.out]) | (go_at_call 27; refine C1.mono ?_; clear C1; rintro e w4 ⟨rfl, t4⟩; have R4 := Row.turn R3 t4 (fun q => q)) | (guard_target =~ wpList _ _ _ ({ dst := _, op := Op.store 29 _ _, .. } :: _) _ _; refine wpList_store_row rfl 29 (.tmp 2) (.tmp 9) rfl (w.heap.size + 1) H rfl rfl 29 Z R4 iD (by rw [hZ, sD]) oD ?_))
    refine bodyPost_ret (v := .tuple #[.agg H, .int .i64 pv]) ?_ rfl ⟨rfl, ((t2.then_no t3).then_no t4).setRow _ _ (fun q => by omega)⟩
    exact results_cell_row_tmp (P := Tryd.prog) Tryd.results7 _ _ (w.heap.size + 1) 29 H (0, 0) _ rfl (setRow_heap _ _ _ _ _ _ R4) Tryd.underlying29 rfl iD
end Go.Proofs.YtgimecdmleofeaaDoor
