/- The walks of asked and of CodecBack. -/
import Derived.Test.YtfjdojodbhmmaabV5
import Derived.Test.YtfjdojodbhmmaabW14
import Derived.Deep.RegionHeld3
namespace Go.Proofs.Ytfjdojodbhmmaab
open Go.RowKit
set_option linter.unusedVariables false

theorem kind_eq (w : World) (k : Int) : Calls Try.prog 19 #[.int .i64 k] w fun e w' => e = .returned (.int .i64 (k % 9)) ∧ w' = w :=
  (kind_any w k).mono (fun _ _ q => ⟨q.1, q.2.symm⟩)

theorem asked_sum (n l : Nat) (hl : l < 9223372036854775800) : IntKind.i64.wrap ((l : Int) + IntKind.i64.wrap ((n : Int).tmod 7)) = (l : Int) + ((n % 7 : Nat) : Int) := by
  have e : (n : Int).tmod 7 = ((n % 7 : Nat) : Int) := by
    rw [Int.tmod_eq_emod_of_nonneg (by omega)]
    simp
  rw [e, IntKind.wrap_i64, IntKind.wrap_i64]
  omega

set_option maxRecDepth 100000 in
set_option maxHeartbeats 2000000 in
theorem asked_any (w : World) (x : Pt) (hn : x.n < 18446744073709551616) (hB : x.B.length < 9223372036854775800) (hm : mayB x = true) (a : Option Addr) (c : Nat) (hv : x.vb = .slice a x.B.length c) :
    Calls Try.prog 8 #[.agg #[.int .i64 x.k, .int .u64 x.n, x.vb]] w fun e w' => e = .returned (.agg #[.int .i64 (x.k % 9), .int .i64 (ask x.k x.n x.B), .int .i64 0]) ∧ Turn no w w' := by
  have hmp := mayP_of hm
  obtain ⟨k, n, vb, B⟩ := x
  simp only at hn hv hB hmp ⊢
  clear hm
  subst hv
  have hkind := fun w => kind_any w k
  have hkeq := fun w => kind_eq w k
  have hk : k % 9 = 0 ∨ k % 9 = 1 ∨ k % 9 = 2 ∨ k % 9 = 3 ∨ k % 9 = 4 ∨ k % 9 = 5 ∨ k % 9 = 6 ∨ k % 9 = 7 ∨ k % 9 = 8 := by omega
  rcases hk with hk | hk | hk | hk | hk | hk | hk | hk | hk
  case inr.inr.inr.inr.inr.inl =>
    have ha : ask k n B = (B.length : Int) := by unfold ask; rw [if_pos hk]
    rw [ha, hk]
    rw [hk] at hkind
    clear ha hk
    go_enter Try.func8, Try.ntmps8
    go_wp2_with (go_at_call 19; refine (hkind _).mono ?_; rintro e w' ⟨rfl, rfl⟩)
    exact bodyPost_ret (v := .agg #[.int .i64 5, .int .i64 (B.length : Int), .int .i64 0]) (by simp [results, Try.results8, go_sem]) rfl ⟨rfl, ((Turn.refl no w).alloc _).alloc _⟩
  case inr.inr.inr.inr.inr.inr.inr.inr =>
    have hn8 : n < 9223372036854775808 := by rcases hmp with h | h <;> omega
    have hw := wrap64_small n hn8
    have hn9 : (n : Int) ≤ 9223372036854775807 := by omega
    have ha : ask k n B = (n : Int) := by unfold ask; rw [if_neg (by omega), if_neg (by omega), if_pos hk]
    rw [ha, hk]
    rw [hk] at hkind
    clear ha hk
    go_enter Try.func8, Try.ntmps8
    go_wp2_with (go_at_call 19; refine (hkind _).mono ?_; rintro e w' ⟨rfl, rfl⟩)
    exact bodyPost_ret (v := .agg #[.int .i64 8, .int .i64 (n : Int), .int .i64 0]) (by simp [results, Try.results8, go_sem]) rfl ⟨rfl, ((Turn.refl no w).alloc _).alloc _⟩
  case inr.inr.inr.inr.inr.inr.inl =>
    have ha : ask k n B = B.length + (n % 7 : Nat) := by unfold ask; rw [if_neg (by omega), if_pos (by omega)]
    rw [ha, hk]
    rw [hk] at hkind hkeq
    clear ha hk
    have HW : Hid (IntKind.i64.wrap ((B.length : Int) + IntKind.i64.wrap ((n : Int).tmod 7)) = (B.length : Int) + ((n % 7 : Nat) : Int)) := asked_sum n B.length hB
    go_enter Try.func8, Try.ntmps8
    go_wp2_with (go_at_call 19; refine (hkind _).mono ?_; rintro e w' ⟨rfl, rfl⟩)
    go_region_held3 (fun w' => w'.cell? ⟨w.heap.size, 0, none⟩ = some (.int .i64 k) ∧ w'.cell? ⟨w.heap.size, 1, none⟩ = some (.int .u64 n) ∧ w'.cell? ⟨w.heap.size, 2, none⟩ = some (.slice a B.length c)) (go_keep)
      (first | (go_at_call 19; refine (hkeq _).mono ?_; rintro e w' ⟨rfl, rfl⟩))
    go_wp2_with fail
    exact bodyPost_ret (v := .agg #[.int .i64 6, .int .i64 (IntKind.i64.wrap ((B.length : Int) + IntKind.i64.wrap ((n : Int).tmod 7))), .int .i64 0]) (by simp [results, Try.results8, go_sem]) rfl ⟨by rw [HW.out], by first | exact (((Turn.refl no w).alloc _).alloc _).drew | exact ((Turn.refl no w).alloc _).alloc _⟩
  case inr.inr.inr.inr.inr.inr.inr.inl =>
    have ha : ask k n B = B.length + (n % 7 : Nat) := by unfold ask; rw [if_neg (by omega), if_pos (by omega)]
    rw [ha, hk]
    rw [hk] at hkind hkeq
    clear ha hk
    have HW : Hid (IntKind.i64.wrap ((B.length : Int) + IntKind.i64.wrap ((n : Int).tmod 7)) = (B.length : Int) + ((n % 7 : Nat) : Int)) := asked_sum n B.length hB
    go_enter Try.func8, Try.ntmps8
    go_wp2_with (go_at_call 19; refine (hkind _).mono ?_; rintro e w' ⟨rfl, rfl⟩)
    go_region_held3 (fun w' => w'.cell? ⟨w.heap.size, 0, none⟩ = some (.int .i64 k) ∧ w'.cell? ⟨w.heap.size, 1, none⟩ = some (.int .u64 n) ∧ w'.cell? ⟨w.heap.size, 2, none⟩ = some (.slice a B.length c)) (go_keep)
      (first | (go_at_call 19; refine (hkeq _).mono ?_; rintro e w' ⟨rfl, rfl⟩))
    go_wp2_with fail
    exact bodyPost_ret (v := .agg #[.int .i64 7, .int .i64 (IntKind.i64.wrap ((B.length : Int) + IntKind.i64.wrap ((n : Int).tmod 7))), .int .i64 0]) (by simp [results, Try.results8, go_sem]) rfl ⟨by rw [HW.out], by first | exact (((Turn.refl no w).alloc _).alloc _).drew | exact ((Turn.refl no w).alloc _).alloc _⟩
  all_goals
    have ha : ask k n B = 0 := by unfold ask; rw [if_neg (by omega), if_neg (by omega), if_neg (by omega)]
    rw [ha, hk]
    rw [hk] at hkind
    clear ha hk
    go_enter Try.func8, Try.ntmps8
    go_wp2_with (go_at_call 19; refine (hkind _).mono ?_; rintro e w' ⟨rfl, rfl⟩)
    exact bodyPost_ret (v := .agg #[.int .i64 _, .int .i64 0, .int .i64 0]) (by simp [results, Try.results8, go_sem]) rfl ⟨rfl, ((Turn.refl no w).alloc _).alloc _⟩

theorem laidAll_app (l r : List Pt) : laidAll (l ++ r) = laidAll l ++ laidAll r := by
  induction l with
  | nil => rfl
  | cons x t ih => simp only [List.cons_append, laidAll, ih, List.append_assoc]

theorem laidAll_split (ps : List Pt) (k : Nat) (h : k < ps.length) : laidAll ps = laidAll (ps.take k) ++ ((if mayB ps[k] then (enc ps[k].k ps[k].n ps[k].B).1 else []) ++ laidAll (ps.drop (k + 1))) := by
  have e : ps = ps.take k ++ ps[k] :: ps.drop (k + 1) := by rw [← List.drop_eq_getElem_cons h, List.take_append_drop]
  have e2 : laidAll ps = laidAll (ps.take k ++ ps[k] :: ps.drop (k + 1)) := by rw [← e]
  rw [e2, laidAll_app]
  rfl

theorem row_of {w : World} {g : Nat} {cs : Array Value} {e : TypeId} (h : w.heap[g]? = some (.cells cs e (0, 0))) (j : Nat) (u : Value) (hu : cs[j]? = some u) : w.cell? ⟨g, j, none⟩ = some u := by
  rw [cell_of_row w g j cs e (0, 0) h]; exact hu

theorem val_bs {w : World} {x : Pt} (h : Bs w x.vb x.B) : Bs w (valV x) (val x.k x.n x.B).2 := by
  unfold valV val
  by_cases hk : x.k % 9 = 5 ∨ x.k % 9 = 6 ∨ x.k % 9 = 7
  · rw [if_pos hk, if_neg (by omega), if_neg (by omega), if_neg (by omega), if_pos hk]
    exact h
  · rw [if_neg hk]
    have : (if x.k % 9 = 0 then (x.n % 256, ([] : List UInt8)) else if x.k % 9 = 1 then (x.n % 2, []) else if x.k % 9 = 2 then (x.n % 4294967296, []) else if x.k % 9 = 5 ∨ x.k % 9 = 6 ∨ x.k % 9 = 7 then (0, x.B) else (x.n, [])).2 = [] := by
      split
      · rfl
      · split
        · rfl
        · split
          · rfl
          · rfl
    rw [this]
    exact nil_bs w

theorem ask_lt {x : Pt} (hB : x.B.length < 9223372036854775800) (hm : mayB x = true) : ask x.k x.n x.B < 9223372036854775808 := by
  have hmp := mayP_of hm
  unfold ask
  unfold mayP at hmp
  split
  · omega
  · split
    · omega
    · split
      · omega
      · omega

set_option maxRecDepth 100000 in
set_option maxHeartbeats 400000 in
theorem back_none (w : World) (vl : Value) (ps : List Pt) (h : Ps w vl ps) (h0 : ps.length = 0) :
    Calls Try.prog 3 #[vl] w fun e w' => e = .returned (.bool true) ∧ Turn no w w' := by
  have hall := all_any w vl ps h (by
    have : ps = [] := List.eq_nil_of_length_eq_zero h0
    subst this
    simp [roomAll])
  obtain ⟨a, c, rfl⟩ := h.slice
  have e1 : ps = [] := List.eq_nil_of_length_eq_zero h0
  subst e1
  clear h
  go_enter Try.func3, Try.ntmps3
  go_wp2_with fail
  refine hall.mono ?_
  rintro e w1 ⟨v1, rfl, o1, f1, t1⟩
  have hb1 := o1.bs
  obtain ⟨ad, ln, cp, rfl⟩ := o1.form
  go_wp2_with fail
  refine (newReader_any _ _ [] hb1 (by simp)).mono ?_
  rintro e w2 ⟨p, v, rfl, r2, f2, t2⟩
  have T2 := t1.then_no t2
  go_wp2_with fail
  go_loop [6] (fun i => i = .int .i64 0) (fun _ => 0)
  case atStart => rfl
  case round =>
    subst hrel
    go_wp2_with fail
    refine (err_any _ _ _ r2.errs).mono ?_
    rintro e w' ⟨rfl, rfl⟩
    go_wp2_with fail
    refine (num_any _ _).mono ?_
    rintro e w' ⟨rfl, rfl⟩
    go_wp2_with fail
    refine (end_made _ _ _ [] 0 r2).mono ?_
    rintro e w' ⟨rfl, n1, rfl⟩
    go_wp2_with fail
    refine (num_any _ _).mono ?_
    rintro e w' ⟨rfl, rfl⟩
    go_wp2_with fail
    refine (left_made _ _ _ [] 0 0 (r2.drewN n1)).mono ?_
    rintro e w' ⟨rfl, n2, rfl⟩
    go_wp2_with fail
    go_ret
    exact ⟨rfl, by first | exact T2.drewN _ | exact (T2.drewN _).drewN _⟩

set_option maxRecDepth 100000 in
set_option maxHeartbeats 2000000 in
theorem back_walk (w : World) (vl : Value) (ps : List Pt) (h : Ps w vl ps) (hroom : roomAll ps + 20 ≤ 140737488351232) :
    Calls Try.prog 3 #[vl] w fun e w' => e = .returned (.bool true) ∧ Turn no w w' := by
  by_cases h0 : ps.length = 0
  · exact back_none w vl ps h h0
  have hall := all_any w vl ps h (by omega)
  have hl := h.le
  unfold maxLen at hl
  obtain ⟨b, o, cap, rfl, _, hat⟩ := h.at (by omega)
  clear h
  have hT := laidAll_le ps
  go_enter Try.func3, Try.ntmps3
  go_wp2_with fail
  refine hall.mono ?_
  rintro e w1 ⟨v1, rfl, o1, f1, t1⟩
  have hb1 := o1.bs
  obtain ⟨ad, ln, cp, rfl⟩ := o1.form
  go_wp2_with fail
  refine (newReader_any _ _ (laidAll ps) hb1 (by omega)).mono ?_
  rintro e w2 ⟨p, v, rfl, r2, f2, t2⟩
  have T2 := t1.then_no t2
  have hp : w.heap.size ≤ p := by have := f2 p (Or.inl rfl); have := t1.size; omega
  clear o1 f1 hb1 t1 t2 f2 hall
  go_wp2_with fail
  go_loopw [6] (fun c wr => ∃ (k : Nat), k ≤ ps.length ∧ c = .int .i64 k ∧ Rd wr p v (laidAll ps) (laidAll (ps.take k)).length 0 ∧ Turn no w wr) (fun c _ => ps.length - (intOf c).toNat)
  case atStart => exact ⟨0, Nat.zero_le _, rfl, by simpa [laidAll] using r2, T2⟩
  case round =>
    obtain ⟨k, hk, rfl, R, T⟩ := hrel
    clear r2 T2
    by_cases hlt : k < ps.length
    · have hx0 := hat k ps[k] (by simp [hlt])
      have hx := hx0.turn_no T
      have hbw : b < w.heap.size := World.block_lt_of_cell? w ⟨b, o + k * 3, none⟩ hx0.1
      have hbp : b ≠ p := by omega
      have hsn : laidAll (ps.take (k + 1)) = laidAll (ps.take k) ++ (if mayB ps[k] then (enc ps[k].k ps[k].n ps[k].B).1 else []) := by rw [List.take_succ_eq_append_getElem hlt, laidAll_snoc]
      have hsp := laidAll_split ps k hlt
      have hrm := room_take ps k hlt
      have hbo : ps[k].B ≠ [] → ∀ g, ps[k].vb.ownBlock = some g → ¬ g = p := fun hB g hg r => by
        have h1 := hx0.2.2.2.2.old hB g hg
        omega
      clear hx0
      generalize ps[k] = x at *
      obtain ⟨c0, c1, c2⟩ := hx.lit
      obtain ⟨_, _, _, hn, hB⟩ := hx
      obtain ⟨ba, bc, hvb⟩ := hB.slice
      have hlt' : (k : Int) < (ps.length : Int) := by omega
      have hmay := fun W => may_any W x hn ba _ bc hvb
      by_cases hm : mayB x = true
      · rw [hm] at hmay
        rw [if_pos hm] at hsn hsp
        have hask := fun W => asked_any W x hn (by omega) hm ba bc hvb
        have hval := fun W => value_any W x hn ba _ bc hvb
        have hrg := (rget_back (laidAll (ps.take k)) (laidAll (ps.drop (k + 1))) x.k x.n x.B hn (by omega) (mayP_of hm)).2
        rw [← hsp] at hrg
        have hread := fun W (t : Turn no wr W) => read_made W p v (laidAll ps) (laidAll (ps.take k)).length (x.k % 9) (ask x.k x.n x.B) 0 (ask_lt (by omega) hm) (by omega) (by omega) (R.turn_no t)
        rw [hrg] at hread
        have hvbs := fun W (h : Bs W x.vb x.B) => val_bs h
        obtain ⟨va, vc, hvv⟩ := (val_bs hB).slice
        have hlen2 : (laidAll (ps.take k)).length + (enc x.k x.n x.B).1.length = (laidAll (ps.take (k + 1))).length := by rw [hsn, List.length_append]
        rw [hlen2] at hread
        generalize hI2 : (laidAll (ps.take (k + 1))).length = i2 at hread hlen2
        rw [hvb] at c2 hmay hask hval
        rw [hvv] at hval
        generalize hV1 : (val x.k x.n x.B).1 = N at *
        generalize hV2 : (val x.k x.n x.B).2 = VB at *
        clear hV1 hrg hsn hsp
        go_wp2_with fail
        refine (hmay _).mono ?_
        rintro e w3 ⟨rfl, t3⟩
        have d0 := t3.keep c0 (fun q => q)
        have d1 := t3.keep c1 (fun q => q)
        have d2 := t3.keep c2 (fun q => q)
        go_wp2_with fail
        refine (hask _).mono ?_
        rintro e w4 ⟨rfl, t4⟩
        have t34 := t3.then_no t4
        have e0 := t4.keep d0 (fun q => q)
        have e1 := t4.keep d1 (fun q => q)
        have e2 := t4.keep d2 (fun q => q)
        clear c0 c1 c2 d0 d1 d2
        go_wp2_with fail
        refine (hread _ t34).mono ?_
        rintro e w5 ⟨vB, rfl, B1, B2, R5, T5⟩
        simp only at R5 B1
        obtain ⟨ad5, c5, hvB⟩ := B1.slice
        subst hvB
        have W6 := (Turn.refl no w5).alloc (.cells #[.int .u64 N, .slice ad5 VB.length c5] 33)
        have g0 := T5.keep e0 hbp
        have g1 := T5.keep e1 hbp
        have g2 := T5.keep e2 hbp
        have hb5 : b < w5.heap.size := World.block_lt_of_cell? w5 _ g0
        clear e0 e1 e2
        go_wp2_with fail
        refine (hval _).mono ?_
        rintro e w7 ⟨rfl, t7⟩
        have X0 := row_of (heap_alloc_new w5 (.cells #[.int .u64 N, .slice ad5 VB.length c5] 33))
        have x0 := t7.keep (X0 0 _ rfl) (fun q => q)
        have x1 := t7.keep (X0 1 _ rfl) (fun q => q)
        have hx5 : w5.heap.size < w7.heap.size := World.block_lt_of_cell? w7 _ x0
        have W8 := (Turn.refl no w7).alloc (.cells #[.int .u64 N, .slice va VB.length vc] 33)
        have T57 := W6.then_no t7
        have R8 := (R5.turn_no T57).turn_no W8
        have S1 := (B1.turn_no T57).turn_no W8
        have S2 := val_bs ((((hB.turn_no t34).turn' T5 hbo).turn_no T57).turn_no W8)
        rw [hvv, hV2] at S2
        have T8 : Turn no w (w7.alloc (.cells #[.int .u64 N, .slice va VB.length vc] 33)) := (((T.then_no t34).trans T5 (fun j hj r => by exfalso; omega)).then_no T57).then_no W8
        clear g0 g1 g2 X0 W6 T57 W8
        go_wp2_with fail
        refine (same_any _ _ _ VB VB S1 S2).mono ?_
        rintro e w' ⟨rfl, n8, rfl⟩
        have hbeq : (VB == VB) = true := by simp
        go_wp2_with fail
        go_roundw
        case rel => exact ⟨k + 1, by omega, by go_num, by rw [hI2]; exact R8.drewN n8, T8.drewN n8⟩
        case measure => simp [intOf]; omega
      · have hm' : mayB x = false := by simpa using hm
        rw [hm'] at hmay
        rw [if_neg hm, List.append_nil] at hsn
        rw [hvb] at c2 hmay
        go_wp2_with fail
        refine (hmay _).mono ?_
        rintro e w3 ⟨rfl, t3⟩
        go_wp2_with fail
        go_roundw
        case rel => exact ⟨k + 1, by omega, by go_num, by rw [hsn]; exact R.turn_no t3, T.then_no t3⟩
        case measure => simp [intOf]; omega
    · have hlt' : ¬ (k : Int) < (ps.length : Int) := by omega
      have hks : k = ps.length := by omega
      rw [hks, List.take_length] at R
      go_wp2_with fail
      refine (err_any _ _ _ R.errs).mono ?_
      rintro e w' ⟨rfl, rfl⟩
      go_wp2_with fail
      refine (num_any _ _).mono ?_
      rintro e w' ⟨rfl, rfl⟩
      go_wp2_with fail
      refine (end_made _ _ _ _ _ R).mono ?_
      rintro e w' ⟨rfl, n1, rfl⟩
      rw [if_neg (by omega)]
      go_wp2_with fail
      refine (num_any _ _).mono ?_
      rintro e w' ⟨rfl, rfl⟩
      go_wp2_with fail
      refine (left_made _ _ _ _ _ 0 (R.drewN n1)).mono ?_
      rintro e w' ⟨rfl, n2, rfl⟩
      rw [Nat.sub_self]
      go_wp2_with fail
      go_ret
      exact ⟨rfl, by first | exact T.drewN _ | exact (T.drewN _).drewN _⟩
end Go.Proofs.Ytfjdojodbhmmaab
