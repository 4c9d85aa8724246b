/- Sy, Sz, Eq, Pd in one: of the law of WireSaysAll. -/
import Derived.Test.YtpfjllkmaogafaaPq
import Derived.Test.YtpfjllkmaogafaaSx
/- Of the law of WireSaysAll: mod, said. -/
namespace Go.Proofs.Ytpfjllkmaogafaa
open Go.RowKit
set_option linter.unusedVariables false

/-- A chain's name, a transaction, a vote, a proposal. -/
def nmD (ch : ByteArray) (x : Tx) (y : Vt) (z : Po) : List Value := .string ch :: (x.cs ++ (y.cs ++ z.cs))
theorem Row.nmd {w : World} {g : Nat} {ch : ByteArray} {x : Tx} {y : Vt} {z : Po} (hx : x.ok) (hy : y.ok) (r : Row w g (nmD ch x y z).toArray 35) : w.cell? ⟨g, 0, none⟩ = some (.string ch) ∧ w.rangeAt g 1 x.cs ∧ w.rangeAt g 23 y.cs ∧ w.rangeAt g 76 z.cs := by
  have R := Row.range r
  have e : ∀ j u, (nmD ch x y z)[j]? = some u → w.cell? ⟨g, j, none⟩ = some u := fun j u hu => by have := R j u hu; rwa [Nat.zero_add] at this
  have lx := x.len hx
  have ly := Vt.len hy
  refine ⟨e 0 _ rfl, fun j u hu => e (1 + j) u ?_, fun j u hu => e (23 + j) u ?_, fun j u hu => e (76 + j) u ?_⟩
  · have hj := (List.getElem?_eq_some_iff.1 hu).1
    rw [show 1 + j = j + 1 by omega]
    simp only [nmD, List.getElem?_cons_succ]
    rw [List.getElem?_append_left hj]
    exact hu
  · have hj := (List.getElem?_eq_some_iff.1 hu).1
    rw [show 23 + j = (22 + j) + 1 by omega]
    simp only [nmD, List.getElem?_cons_succ]
    rw [List.getElem?_append_right (by omega), show 22 + j - x.cs.length = j by omega, List.getElem?_append_left hj]
    exact hu
  · rw [show 76 + j = (75 + j) + 1 by omega]
    simp only [nmD, List.getElem?_cons_succ]
    rw [List.getElem?_append_right (by omega), List.getElem?_append_right (by omega), show 75 + j - x.cs.length - y.cs.length = j by omega]
    exact hu
theorem mod25 (w : World) (n : Int) : Calls Try.prog 25 #[.int .i64 n, .int .i64 3] w fun e w' => e = .returned (.int .i64 (n % 3)) ∧ w = w' := by
  have hb1 : -(3 : Int) < n.tmod 3 := Int.lt_tmod_of_pos n (by omega)
  have hb2 : n.tmod 3 < 3 := Int.tmod_lt_of_pos n (by omega)
  have hq := Int.mul_tdiv_add_tmod n 3
  by_cases h0 : n.tmod 3 < 0
  · have hm : n.tmod 3 + 3 = n % 3 := by omega
    have h1 : IntKind.i64.wrap (n.tmod 3 + 3) = n % 3 := by rw [IntKind.wrap_i64]; omega
    clear hq
    go_enter Try.func25, Try.ntmps25
    go_wp2_with fail
    go_ret
    exact ⟨rfl, rfl⟩
  · have hm : n.tmod 3 = n % 3 := by omega
    clear hq
    go_enter Try.func25, Try.ntmps25
    go_wp2_with fail
    go_ret
    exact ⟨rfl, rfl⟩
/-- What is signed, by the kind's number. -/
def sayE (n : Int) (ch : ByteArray) (x : Tx) (y : Vt) (z : Po) : Int := if n % 3 = 0 then plainS ch x else if n % 3 = 1 then plainSv ch y else plainSp ch z
def sayB (n : Int) (ch : ByteArray) (x : Tx) (y : Vt) (z : Po) : List UInt8 := if n % 3 = 0 then sB ch x else if n % 3 = 1 then sBv ch y else sBp ch z
set_option maxRecDepth 100000 in
set_option maxHeartbeats 4000000 in
theorem said23 (w : World) (n : Int) (ch : ByteArray) (x : Tx) (y : Vt) (z : Po) (hx : x.ok) (hy : y.fits) (hz : z.ok) : Calls Try.prog 23 #[.int .i64 n, .agg (nmD ch x y z).toArray] w (Told w (sayE n ch x y z) (sayB n ch x y z)) := by
  obtain ⟨c0, cT, cV, cP⟩ := (Row.new w (nmD ch x y z).toArray 35).nmd hx hy.1
  have sT : (Try.prog.info? 27).map (·.size) = some x.cs.length := by rw [x.len hx]; exact size27
  have sV : (Try.prog.info? 31).map (·.size) = some y.cs.length := by rw [Vt.len hy.1]; exact size29
  have sP : (Try.prog.info? 33).map (·.size) = some z.cs.length := by rw [Po.len hz]; kernel_rfl
  have C7 := fun W => txBytes7 W ch x hx
  have C8 := fun W => voteBytes8 W ch y hy
  have C9 := fun W => propBytes9 W ch z hz
  have t0 : Turn no w (w.alloc (.cells (nmD ch x y z).toArray 35)) := (Turn.refl no w).alloc _
  have M := mod25 (w.alloc (.cells (nmD ch x y z).toArray 35)) n
  have hr : n % 3 = 0 ∨ n % 3 = 1 ∨ n % 3 = 2 := by omega
  unfold sayE sayB
  generalize n % 3 = m at *
  generalize plainS ch x = e1 at *
  generalize sB ch x = A1 at *
  generalize plainSv ch y = e2 at *
  generalize sBv ch y = A2 at *
  generalize plainSp ch z = e3 at *
  generalize sBp ch z = A3 at *
  generalize x.cs = X at *
  generalize y.cs = Y at *
  generalize z.cs = Z at *
  generalize hD : (nmD ch x y z).toArray = D at *
  generalize hw1 : w.alloc (.cells D 35) = w1 at *
  have HT := shutX cT
  have HV := shutX cV
  have HP := shutX cP
  clear cT cV cP
  rcases hr with rfl | rfl | rfl
  · rw [if_pos rfl, if_pos rfl]
    have C := C7 w1
    clear C7 C8 C9
    go_enter Try.func23, Try.ntmps23
    go_upto_region 1 with fail
    try rw [hw1]
    go_wp2_with (first | (go_at_call 25; refine M.mono ?_; rintro e w9 ⟨rfl, h9⟩; subst h9) | (go_at_call 13; refine (num13 _ _).mono ?_; rintro e w9 ⟨rfl, h9⟩; have h9' := h9; subst h9') | (guard_target =~ wpList _ _ _ ({ dst := _, op := Op.load 27 _, .. } :: _) _ _; refine wpList_load_mid rfl 27 (.tmp 19) rfl w.heap.size 1 rfl X _ HT.out Try.underlying27 rfl sT ?_) | (go_at_call 7; refine C.mono ?_; rintro e w5 ⟨v5, rfl, o5, n5, t5⟩; obtain ⟨a5, l5, c5, rfl⟩ := o5.form))
    go_ret2
    exact ⟨_, rfl, o5, fun g hg => Nat.le_trans t0.size (n5 g hg), t0.then_no t5⟩
  · rw [if_neg (by decide), if_pos rfl, if_neg (by decide), if_pos rfl]
    have C := C8 w1
    clear C7 C8 C9
    go_enter Try.func23, Try.ntmps23
    go_upto_region 1 with fail
    try rw [hw1]
    go_wp2_with (first | (go_at_call 25; refine M.mono ?_; rintro e w9 ⟨rfl, h9⟩; subst h9) | (go_at_call 13; refine (num13 _ _).mono ?_; rintro e w9 ⟨rfl, h9⟩; have h9' := h9; subst h9') | (guard_target =~ wpList _ _ _ ({ dst := _, op := Op.load 31 _, .. } :: _) _ _; refine wpList_load_mid rfl 31 (.tmp 32) rfl w.heap.size 23 rfl Y _ HV.out Try.underlying31 rfl sV ?_) | (go_at_call 8; refine C.mono ?_; rintro e w5 ⟨v5, rfl, o5, n5, t5⟩; obtain ⟨a5, l5, c5, rfl⟩ := o5.form))
    go_ret2
    exact ⟨_, rfl, o5, fun g hg => Nat.le_trans t0.size (n5 g hg), t0.then_no t5⟩
  · rw [if_neg (by decide), if_neg (by decide), if_neg (by decide), if_neg (by decide)]
    have C := C9 w1
    clear C7 C8 C9
    go_enter Try.func23, Try.ntmps23
    go_upto_region 1 with fail
    try rw [hw1]
    go_wp2_with (first | (go_at_call 25; refine M.mono ?_; rintro e w9 ⟨rfl, h9⟩; subst h9) | (go_at_call 13; refine (num13 _ _).mono ?_; rintro e w9 ⟨rfl, h9⟩; have h9' := h9; subst h9') | (guard_target =~ wpList _ _ _ ({ dst := _, op := Op.load 33 _, .. } :: _) _ _; refine wpList_load_mid rfl 33 (.tmp 43) rfl w.heap.size 76 rfl Z _ HP.out Try.underlying33 rfl sP ?_) | (go_at_call 9; refine C.mono ?_; rintro e w5 ⟨v5, rfl, o5, n5, t5⟩; obtain ⟨a5, l5, c5, rfl⟩ := o5.form))
    go_ret2
    exact ⟨_, rfl, o5, fun g hg => Nat.le_trans t0.size (n5 g hg), t0.then_no t5⟩
theorem over_app (A B C D : List Value) (o : Nat) (ho : A.length = o) (hl : B.length = D.length) : over (A ++ (B ++ C)).toArray o D = (A ++ (D ++ C)).toArray := by
  unfold over
  congr 1
  simp [← ho, ← hl]
theorem unsT (ch : ByteArray) (x : Tx) (y : Vt) (z : Po) (hx : x.ok) : over (nmD ch x y z).toArray 7 (z16.map bv) = (nmD ch { x with se := z16 } y z).toArray := by
  have h := over_app [.string ch, .int .i64 x.k, .int .u64 x.fr, .int .u64 x.to, .int .u64 x.am, .int .u64 x.fe, .int .u64 x.no] (x.se.map bv) (y.cs ++ z.cs) (z16.map bv) 7 rfl (by simp [hx.1, z16])
  simpa [nmD, Tx.cs] using h
theorem unsV (ch : ByteArray) (x : Tx) (y : Vt) (z : Po) (hx : x.ok) (hy : y.ok) : over (nmD ch x y z).toArray 60 (z16.map bv) = (nmD ch x { y with se := z16 } z).toArray := by
  have h := over_app (.string ch :: (x.cs ++ (.int .i64 y.k :: .int .u64 y.h :: .int .i64 y.r :: (y.id.map bv ++ [.int .u64 y.t, .int .u64 y.f])))) (y.se.map bv) z.cs (z16.map bv) 60 (by simp [x.len hx, hy.1]) (by simp [hy.2, z16])
  simpa [nmD, Vt.cs] using h
theorem unsP (ch : ByteArray) (x : Tx) (y : Vt) (z : Po) (hx : x.ok) (hy : y.ok) (hz : z.ok) : over (nmD ch x y z).toArray 112 (z16.map bv) = (nmD ch x y { z with se := z16 }).toArray := by
  have h := over_app (.string ch :: (x.cs ++ (y.cs ++ (.int .u64 z.h :: .int .i64 z.r :: .int .i64 z.vr :: (z.id.map bv ++ [.int .u64 z.f]))))) (z.se.map bv) [] (z16.map bv) 112 (by simp [x.len hx, Vt.len hy, hz.1]) (by simp [hz.2.1, z16])
  simpa [nmD, Po.cs] using h
end Go.Proofs.Ytpfjllkmaogafaa

/- Of the law of WireSaysAll: unsealed. -/
namespace Go.Proofs.Ytpfjllkmaogafaa
open Go.RowKit
set_option linter.unusedVariables false

theorem there_of {w : World} {g : Nat} {X : Array Value} {t : TypeId} (h : Row w g X t) (o n : Nat) (hn : o + n ≤ X.size) : w.there g o n := fun j hj => by
  have hc := h.cell (o + j) (X[o + j]'(by omega)) (by simp)
  exact ⟨by rw [hc]; rfl, h.frozen _⟩
theorem nmD_len (ch : ByteArray) (x : Tx) (y : Vt) (z : Po) (hx : x.ok) (hy : y.ok) (hz : z.ok) : (nmD ch x y z).toArray.size = 128 := by simp [nmD, x.len hx, Vt.len hy, Po.len hz]
theorem nmD_one (ch : ByteArray) (x : Tx) (y : Vt) (z : Po) : (nmD ch x y z).toArray.all (·.oneCell') = true := all_oneCell_toArray (fun u hu => by
  simp only [nmD, List.mem_cons, List.mem_append] at hu
  rcases hu with rfl | hu | hu | hu
  · rfl
  · simp only [Tx.cs, List.mem_cons, List.mem_map] at hu
    rcases hu with rfl | rfl | rfl | rfl | rfl | rfl | ⟨b, _, rfl⟩ <;> rfl
  · exact Vt.one y u hu
  · exact Po.one z u hu)
set_option maxRecDepth 100000 in
set_option maxHeartbeats 2000000 in
theorem unsealed24 (w : World) (ch : ByteArray) (x : Tx) (y : Vt) (z : Po) (hx : x.ok) (hy : y.ok) (hz : z.ok) : Calls Try.prog 24 #[.agg (nmD ch x y z).toArray] w fun e w' => e = .returned (.agg (nmD ch { x with se := z16 } { y with se := z16 } { z with se := z16 }).toArray) ∧ Turn no w w' := by
  have e1 := unsT ch x y z hx
  have e2 := unsV ch { x with se := z16 } y z ⟨rfl, hx.2⟩ hy
  have e3 := unsP ch { x with se := z16 } { y with se := z16 } z ⟨rfl, hx.2⟩ ⟨hy.1, rfl⟩ hz
  have l0 := nmD_len ch x y z hx hy hz
  have l1 := nmD_len ch { x with se := z16 } y z ⟨rfl, hx.2⟩ hy hz
  have l2 := nmD_len ch { x with se := z16 } { y with se := z16 } z ⟨rfl, hx.2⟩ ⟨hy.1, rfl⟩ hz
  have l3 := nmD_len ch { x with se := z16 } { y with se := z16 } { z with se := z16 } ⟨rfl, hx.2⟩ ⟨hy.1, rfl⟩ ⟨hz.1, rfl, hz.2.2⟩
  have o3 := nmD_one ch { x with se := z16 } { y with se := z16 } { z with se := z16 }
  have hi35 : (Try.prog.info? 35).map (·.size) = some 128 := by kernel_rfl
  have hzo : (z16.map bv).toArray.all (·.oneCell') = true := by simp [bv, Value.oneCell']
  generalize (nmD ch { x with se := z16 } { y with se := z16 } { z with se := z16 }).toArray = D3 at *
  generalize (nmD ch { x with se := z16 } { y with se := z16 } z).toArray = D2 at *
  generalize (nmD ch { x with se := z16 } y z).toArray = D1 at *
  generalize (nmD ch x y z).toArray = D at *
  have hi3 : (Try.prog.info? 35).map (·.size) = some D3.size := by rw [l3]; exact hi35
  obtain ⟨ZN, hZN, hZl⟩ : ∃ ZN : Array Value, ZN = Try.zeroCells35 ∧ ZN.size = 128 := ⟨_, rfl, by kernel_rfl⟩
  have ra : Row ((w.alloc (.cells D 35)).alloc (.cells ZN 35)) w.heap.size D 35 := (Row.new w D 35).alloc _
  have rb : Row ((w.alloc (.cells D 35)).alloc (.cells ZN 35)) (w.heap.size + 1) ZN 35 := Row.newAt _ _ _ _ (by simp)
  have t0 : Turn no w ((w.alloc (.cells D 35)).alloc (.cells ZN 35)) := ((Turn.refl no w).alloc _).alloc _
  generalize hw2 : (w.alloc (.cells D 35)).alloc (.cells ZN 35) = w2 at *
  go_enter Try.func24, Try.ntmps24
  go_upto_region 1 with fail
  rw [← hZN, hw2]
  clear hw2 hZN
  generalize hg : w.heap.size = g at *
  go_upto_region 2 with (first | (guard_target =~ wpList _ _ _ ({ dst := _, op := Op.build 25 _, .. } :: _) _ _; refine wpList_buildG (by kernel_rfl) 25 rfl _ (build25 _) ?_) | (guard_target =~ wpList _ _ _ ({ dst := _, op := Op.store 25 _ _, .. } :: _) _ _; refine wpList_store_mid rfl 25 (.tmp 5) (.tmp 3) rfl g 7 (z16.map bv).toArray rfl rfl (there_of ra 7 16 (by omega)) (by kernel_rfl) hzo ?_))
  have A1 := Row.setCells (z16.map bv) (o := 7) ra (by simp [z16]; omega)
  have B1 := rb.turn (Turn.setCells (z16.map bv) (g := g) (o := 7) (Turn.refl (fun k => k = g) w2) (fun _ => rfl)) (fun q => by omega)
  have T1 : Turn no w _ := Turn.setCells (z16.map bv) (g := g) (o := 7) t0 (fun q => by omega)
  rw [e1] at A1
  generalize w2.setCells g 7 (z16.map bv) = W1 at *
  go_upto_region 3 with (first | (guard_target =~ wpList _ _ _ ({ dst := _, op := Op.build 25 _, .. } :: _) _ _; refine wpList_buildG (by kernel_rfl) 25 rfl _ (build25 _) ?_) | (guard_target =~ wpList _ _ _ ({ dst := _, op := Op.store 25 _ _, .. } :: _) _ _; refine wpList_store_mid rfl 25 (.tmp 8) (.tmp 6) rfl g 60 (z16.map bv).toArray rfl rfl (there_of A1 60 16 (by omega)) (by kernel_rfl) hzo ?_))
  have A2 := Row.setCells (z16.map bv) (o := 60) A1 (by simp [z16]; omega)
  have B2 := B1.turn (Turn.setCells (z16.map bv) (g := g) (o := 60) (Turn.refl (fun k => k = g) W1) (fun _ => rfl)) (fun q => by omega)
  have T2 : Turn no w _ := Turn.setCells (z16.map bv) (g := g) (o := 60) T1 (fun q => by omega)
  rw [e2] at A2
  generalize W1.setCells g 60 (z16.map bv) = W2 at *
  go_upto_region 4 with (first | (guard_target =~ wpList _ _ _ ({ dst := _, op := Op.build 25 _, .. } :: _) _ _; refine wpList_buildG (by kernel_rfl) 25 rfl _ (build25 _) ?_) | (guard_target =~ wpList _ _ _ ({ dst := _, op := Op.store 25 _ _, .. } :: _) _ _; refine wpList_store_mid rfl 25 (.tmp 11) (.tmp 9) rfl g 112 (z16.map bv).toArray rfl rfl (there_of A2 112 16 (by omega)) (by kernel_rfl) hzo ?_))
  have A3 := Row.setCells (z16.map bv) (o := 112) A2 (by simp [z16]; omega)
  have B3 := B2.turn (Turn.setCells (z16.map bv) (g := g) (o := 112) (Turn.refl (fun k => k = g) W2) (fun _ => rfl)) (fun q => by omega)
  have T3 : Turn no w _ := Turn.setCells (z16.map bv) (g := g) (o := 112) T2 (fun q => by omega)
  rw [e3] at A3
  generalize W2.setCells g 112 (z16.map bv) = W3 at *
  go_wp2_with (first | (guard_target =~ wpList _ _ _ ({ dst := _, op := Op.load 35 _, .. } :: _) _ _; refine wpList_load_row rfl 35 (.tmp 1) rfl g rfl 35 D3 (0, 0) _ A3 Try.underlying35 rfl hi3 ?_) | (guard_target =~ wpList _ _ _ ({ dst := _, op := Op.store 35 _ _, .. } :: _) _ _; refine wpList_store_row rfl 35 (.tmp 2) (.tmp 12) rfl (g + 1) D3 rfl rfl 35 ZN B3 hi3 (by omega) o3 ?_))
  have hz' : (W3.setRow (g + 1) D3).heap[g + 1]? = some (.cells D3 35 (0, 0)) := setRow_heap _ _ _ _ _ _ B3
  refine bodyPost_ret (v := .agg D3) ?_ rfl ⟨rfl, T3.setRow _ _ (fun q => by omega)⟩
  exact results_cell_row (P := Try.prog) Try.results24 _ _ (g + 1) 35 D3 (0, 0) _ rfl hz' Try.underlying35 rfl hi3
end Go.Proofs.Ytpfjllkmaogafaa

/- Structs held against each other, like or not. -/
namespace Go.Proofs.Ytpfjllkmaogafaa
open Go.RowKit
set_option linter.unusedVariables false

theorem eqFields_gen (w : World) (d : Nat) (xs ys : Array Value) (R : Nat → Bool) : ∀ fs : List Field, (∀ f ∈ fs, f.name ≠ "_" ∧ ∃ a b, (part f.type xs f.offset).run Try.prog w = .ok a w ∧ (part f.type ys f.offset).run Try.prog w = .ok b w ∧ (Op.equalIn d f.type a b).run Try.prog w = .ok (R f.offset) w) → (Op.eqFields d xs ys fs).run Try.prog w = .ok ((fs.map (·.offset)).all R) w
  | [], _ => by simp [Op.eqFields]
  | f :: fs, h => by
    obtain ⟨hn, a, b, h1, h2, h3⟩ := h f (by simp)
    have ih := eqFields_gen w d xs ys R fs (fun g hg => h g (by simp [hg]))
    simp only [Op.eqFields, Sem.run_bind, Sem.run_ite]
    split
    · simp only [h1, h2, h3, Result.andThen_ok]
      cases hr : R f.offset with
      | false => simp [hr]
      | true =>
        simp only [Bool.not_true, Bool.false_eq_true, if_false, ih]
        simp [hr]
    · next hq => exact absurd hq (by simpa using hn)
theorem names31 : ((Try.prog.fieldsOf 31).toList.all fun f => f.name != "_") = true := by kernel_rfl
def eqVtR (v u : Vt) : Nat → Bool
  | 0 => v.k == u.k
  | 1 => v.h == u.h
  | 2 => v.r == u.r
  | 3 => v.id == u.id
  | 35 => v.t == u.t
  | 36 => v.f == u.f
  | _ => v.se == u.se
/-- Alike? -/
def eqVtQ (v u : Vt) : Bool := [0, 1, 2, 3, 35, 36, 37].all (eqVtR v u)
theorem eqVt2 (w : World) (d : Nat) (v u : Vt) (h : v.ok) (g : u.ok) : (Op.equalIn (d + 3) 31 (.agg v.cs.toArray) (.agg u.cs.toArray)).run Try.prog w = .ok (eqVtQ v u) w := by
  rw [run_equalIn_struct w (d + 2) 31 _ _ (by kernel_rfl) (by kernel_rfl)]
  have ho : (Try.prog.fieldsOf 31).toList.map (·.offset) = [0, 1, 2, 3, 35, 36, 37] := by kernel_rfl
  have := eqFields_gen w (d + 2) v.cs.toArray u.cs.toArray (eqVtR v u) (Try.prog.fieldsOf 31).toList (fun f hf => ?_)
  · rw [ho] at this
    exact this
  refine ⟨by have := List.all_eq_true.1 names31 f hf; simpa using this, ?_⟩
  have hm : (f.type, f.offset) ∈ [(3, 0), (22, 1), (3, 2), (29, 3), (22, 35), (23, 36), (25, 37)] := by
    rw [← fields31]
    exact List.mem_map.2 ⟨f, hf, rfl⟩
  generalize f.type = t at *
  generalize f.offset = o at *
  simp only [List.mem_cons, Prod.mk.injEq, List.not_mem_nil, or_false] at hm
  rcases hm with ⟨rfl, rfl⟩ | ⟨rfl, rfl⟩ | ⟨rfl, rfl⟩ | ⟨rfl, rfl⟩ | ⟨rfl, rfl⟩ | ⟨rfl, rfl⟩ | ⟨rfl, rfl⟩
  · exact ⟨_, _, cell_part w (by kernel_rfl) (v.c0), cell_part w (by kernel_rfl) (u.c0), by rw [run_equalIn_int w (d + 1) 3 .i64 .i64 _ _ Try.underlying3]; rfl⟩
  · exact ⟨_, _, cell_part w (by kernel_rfl) (v.c1), cell_part w (by kernel_rfl) (u.c1), by rw [run_equalIn_int w (d + 1) 22 .u64 .u64 _ _ Try.underlying22]; rfl⟩
  · exact ⟨_, _, cell_part w (by kernel_rfl) (v.c2), cell_part w (by kernel_rfl) (u.c2), by rw [run_equalIn_int w (d + 1) 3 .i64 .i64 _ _ Try.underlying3]; rfl⟩
  · exact ⟨_, _, agg_part w (by kernel_rfl) size24 (Vt.x24 h), agg_part w (by kernel_rfl) size24 (Vt.x24 g), by rw [eqIn24 w d _ _ h.1 g.1]; rfl⟩
  · exact ⟨_, _, cell_part w (by kernel_rfl) (Vt.c35 h), cell_part w (by kernel_rfl) (Vt.c35 g), by rw [run_equalIn_int w (d + 1) 22 .u64 .u64 _ _ Try.underlying22]; rfl⟩
  · exact ⟨_, _, cell_part w (by kernel_rfl) (Vt.c36 h), cell_part w (by kernel_rfl) (Vt.c36 g), by rw [run_equalIn_int w (d + 1) 23 .u64 .u64 _ _ Try.underlying23]; rfl⟩
  · exact ⟨_, _, agg_part w (by kernel_rfl) size25 (Vt.x27 h), agg_part w (by kernel_rfl) size25 (Vt.x27 g), by rw [eqIn27 w d _ _ h.2 g.2]; rfl⟩
theorem eqVtl (w : World) (v u : Vt) (h : v.ok) (g : u.ok) : (binOp .eql 31 (.agg v.cs.toArray) (.agg u.cs.toArray)).run Try.prog w = .ok (.bool (eqVtQ v u)) w := by
  rw [run_eql_struct, eqVt2 w 9997 v u h g]
  rfl
theorem eqVtQ_iff (v u : Vt) : eqVtQ v u = true ↔ v = u := by
  obtain ⟨a0, a1, a2, a3, a4, a5, a6⟩ := v
  obtain ⟨b0, b1, b2, b3, b4, b5, b6⟩ := u
  simp [eqVtQ, eqVtR]
theorem names33 : ((Try.prog.fieldsOf 33).toList.all fun f => f.name != "_") = true := by kernel_rfl
def eqPoR (v u : Po) : Nat → Bool
  | 0 => (v.h : Int) == (u.h : Int)
  | 1 => v.r == u.r
  | 2 => v.vr == u.vr
  | 3 => v.id == u.id
  | 35 => (v.f : Int) == (u.f : Int)
  | _ => v.se == u.se
/-- Alike? -/
def eqPoQ (v u : Po) : Bool := [0, 1, 2, 3, 35, 36].all (eqPoR v u)
theorem eqPo2 (w : World) (d : Nat) (v u : Po) (h : v.ok) (g : u.ok) : (Op.equalIn (d + 3) 33 (.agg v.cs.toArray) (.agg u.cs.toArray)).run Try.prog w = .ok (eqPoQ v u) w := by
  rw [run_equalIn_struct w (d + 2) 33 _ _ (by kernel_rfl) (by kernel_rfl)]
  have ho : (Try.prog.fieldsOf 33).toList.map (·.offset) = [0, 1, 2, 3, 35, 36] := by kernel_rfl
  have := eqFields_gen w (d + 2) v.cs.toArray u.cs.toArray (eqPoR v u) (Try.prog.fieldsOf 33).toList (fun f hf => ?_)
  · rw [ho] at this
    exact this
  refine ⟨by have := List.all_eq_true.1 names33 f hf; simpa using this, ?_⟩
  have hm : (f.type, f.offset) ∈ [(22, 0), (3, 1), (3, 2), (29, 3), (23, 35), (25, 36)] := by
    rw [← fields33]
    exact List.mem_map.2 ⟨f, hf, rfl⟩
  generalize f.type = t at *
  generalize f.offset = o at *
  simp only [List.mem_cons, Prod.mk.injEq, List.not_mem_nil, or_false] at hm
  rcases hm with ⟨rfl, rfl⟩ | ⟨rfl, rfl⟩ | ⟨rfl, rfl⟩ | ⟨rfl, rfl⟩ | ⟨rfl, rfl⟩ | ⟨rfl, rfl⟩
  · exact ⟨_, _, cell_part w (by kernel_rfl) (v.c0), cell_part w (by kernel_rfl) (u.c0), by rw [run_equalIn_int w (d + 1) 22 .u64 .u64 _ _ Try.underlying22]; rfl⟩
  · exact ⟨_, _, cell_part w (by kernel_rfl) (v.c1), cell_part w (by kernel_rfl) (u.c1), by rw [run_equalIn_int w (d + 1) 3 .i64 .i64 _ _ Try.underlying3]; rfl⟩
  · exact ⟨_, _, cell_part w (by kernel_rfl) (v.c2), cell_part w (by kernel_rfl) (u.c2), by rw [run_equalIn_int w (d + 1) 3 .i64 .i64 _ _ Try.underlying3]; rfl⟩
  · exact ⟨_, _, agg_part w (by kernel_rfl) size24 (Po.x24 h), agg_part w (by kernel_rfl) size24 (Po.x24 g), by rw [eqIn24 w d _ _ h.1 g.1]; rfl⟩
  · exact ⟨_, _, cell_part w (by kernel_rfl) (v.c35 h.1), cell_part w (by kernel_rfl) (u.c35 g.1), by rw [run_equalIn_int w (d + 1) 23 .u64 .u64 _ _ Try.underlying23]; rfl⟩
  · exact ⟨_, _, agg_part w (by kernel_rfl) size25 (Po.x27 h), agg_part w (by kernel_rfl) size25 (Po.x27 g), by rw [eqIn27 w d _ _ h.2.1 g.2.1]; rfl⟩
theorem eqPol (w : World) (v u : Po) (h : v.ok) (g : u.ok) : (binOp .eql 33 (.agg v.cs.toArray) (.agg u.cs.toArray)).run Try.prog w = .ok (.bool (eqPoQ v u)) w := by
  rw [run_eql_struct, eqPo2 w 9997 v u h g]
  rfl
theorem eqPoQ_iff (v u : Po) : eqPoQ v u = true ↔ v = u := by
  obtain ⟨a0, a1, a2, a3, a4, a5⟩ := v
  obtain ⟨b0, b1, b2, b3, b4, b5⟩ := u
  simp [eqPoQ, eqPoR, Int.natCast_inj]
theorem fields27 : (Try.prog.fieldsOf 27).toList.map (fun f => (f.type, f.offset)) = [(3, 0), (23, 1), (23, 2), (22, 3), (22, 4), (22, 5), (25, 6)] := by kernel_rfl
theorem names27 : ((Try.prog.fieldsOf 27).toList.all fun f => f.name != "_") = true := by kernel_rfl
def eqTxR (v u : Tx) : Nat → Bool
  | 0 => v.k == u.k
  | 1 => (v.fr : Int) == (u.fr : Int)
  | 2 => (v.to : Int) == (u.to : Int)
  | 3 => (v.am : Int) == (u.am : Int)
  | 4 => (v.fe : Int) == (u.fe : Int)
  | 5 => (v.no : Int) == (u.no : Int)
  | _ => v.se == u.se
/-- Alike? -/
def eqTxQ (v u : Tx) : Bool := [0, 1, 2, 3, 4, 5, 6].all (eqTxR v u)
theorem Tx.x25 {v : Tx} (h : v.ok) : v.cs.toArray.extract 6 22 = (v.se.map bv).toArray := by
  apply Array.ext'
  simp only [Array.toList_extract, Tx.cs, List.extract_eq_take_drop]
  simp
  exact List.take_of_length_le (by simp [h.1])
theorem eqTx2 (w : World) (d : Nat) (v u : Tx) (h : v.ok) (g : u.ok) : (Op.equalIn (d + 3) 27 (.agg v.cs.toArray) (.agg u.cs.toArray)).run Try.prog w = .ok (eqTxQ v u) w := by
  rw [run_equalIn_struct w (d + 2) 27 _ _ (by kernel_rfl) (by kernel_rfl)]
  have ho : (Try.prog.fieldsOf 27).toList.map (·.offset) = [0, 1, 2, 3, 4, 5, 6] := by kernel_rfl
  have := eqFields_gen w (d + 2) v.cs.toArray u.cs.toArray (eqTxR v u) (Try.prog.fieldsOf 27).toList (fun f hf => ?_)
  · rw [ho] at this
    exact this
  refine ⟨by have := List.all_eq_true.1 names27 f hf; simpa using this, ?_⟩
  have hm : (f.type, f.offset) ∈ [(3, 0), (23, 1), (23, 2), (22, 3), (22, 4), (22, 5), (25, 6)] := by
    rw [← fields27]
    exact List.mem_map.2 ⟨f, hf, rfl⟩
  generalize f.type = t at *
  generalize f.offset = o at *
  simp only [List.mem_cons, Prod.mk.injEq, List.not_mem_nil, or_false] at hm
  rcases hm with ⟨rfl, rfl⟩ | ⟨rfl, rfl⟩ | ⟨rfl, rfl⟩ | ⟨rfl, rfl⟩ | ⟨rfl, rfl⟩ | ⟨rfl, rfl⟩ | ⟨rfl, rfl⟩
  · exact ⟨.int .i64 v.k, .int .i64 u.k, cell_part w (by kernel_rfl) rfl, cell_part w (by kernel_rfl) rfl, by rw [run_equalIn_int w (d + 1) 3 .i64 .i64 _ _ Try.underlying3]; rfl⟩
  · exact ⟨.int .u64 v.fr, .int .u64 u.fr, cell_part w (by kernel_rfl) rfl, cell_part w (by kernel_rfl) rfl, by rw [run_equalIn_int w (d + 1) 23 .u64 .u64 _ _ Try.underlying23]; rfl⟩
  · exact ⟨.int .u64 v.to, .int .u64 u.to, cell_part w (by kernel_rfl) rfl, cell_part w (by kernel_rfl) rfl, by rw [run_equalIn_int w (d + 1) 23 .u64 .u64 _ _ Try.underlying23]; rfl⟩
  · exact ⟨.int .u64 v.am, .int .u64 u.am, cell_part w (by kernel_rfl) rfl, cell_part w (by kernel_rfl) rfl, by rw [run_equalIn_int w (d + 1) 22 .u64 .u64 _ _ Try.underlying22]; rfl⟩
  · exact ⟨.int .u64 v.fe, .int .u64 u.fe, cell_part w (by kernel_rfl) rfl, cell_part w (by kernel_rfl) rfl, by rw [run_equalIn_int w (d + 1) 22 .u64 .u64 _ _ Try.underlying22]; rfl⟩
  · exact ⟨.int .u64 v.no, .int .u64 u.no, cell_part w (by kernel_rfl) rfl, cell_part w (by kernel_rfl) rfl, by rw [run_equalIn_int w (d + 1) 22 .u64 .u64 _ _ Try.underlying22]; rfl⟩
  · exact ⟨_, _, agg_part w (by kernel_rfl) size25 (Tx.x25 h), agg_part w (by kernel_rfl) size25 (Tx.x25 g), by rw [eqIn27 w d _ _ h.1 g.1]; rfl⟩
theorem eqTxl (w : World) (v u : Tx) (h : v.ok) (g : u.ok) : (binOp .eql 27 (.agg v.cs.toArray) (.agg u.cs.toArray)).run Try.prog w = .ok (.bool (eqTxQ v u)) w := by
  rw [run_eql_struct, eqTx2 w 9997 v u h g]
  rfl
theorem eqTxQ_iff (v u : Tx) : eqTxQ v u = true ↔ v = u := by
  obtain ⟨a0, a1, a2, a3, a4, a5, a6⟩ := v
  obtain ⟨b0, b1, b2, b3, b4, b5, b6⟩ := u
  simp [eqTxQ, eqTxR, Int.natCast_inj]
end Go.Proofs.Ytpfjllkmaogafaa

/- What is plain: two that say the same. -/
namespace Go.Proofs.Ytpfjllkmaogafaa
open Go.RowKit
set_option linter.unusedVariables false

theorem bytes_inj {a b : ByteArray} (h : a.toList = b.toList) : a = b := by
  rw [ByteArray.toList_eq, ByteArray.toList_eq] at h
  obtain ⟨d⟩ := a
  obtain ⟨d'⟩ := b
  dsimp only at h
  rw [Array.ext' h]
theorem says_tx (ch : ByteArray) (x x' : Tx) (hx : x.ok) (hx' : x'.ok) (hp : plainS ch x = 0) (hp' : plainS ch x' = 0) : (sB ch x == sB ch x') = eqTxQ { x with se := z16 } { x' with se := z16 } := by
  have e1 : sB ch x = stB ch x := by unfold sB; rw [if_pos hp]
  have e2 : sB ch x' = stB ch x' := by unfold sB; rw [if_pos hp']
  rw [e1, e2, Bool.eq_iff_iff, beq_iff_eq, eqTxQ_iff]
  exact ⟨fun h => (tx_inj ch ch x x' hx hx' hp hp' h).2, fun h => tx_same ch x x' h⟩
theorem says_vo (ch : ByteArray) (x x' : Vt) (hx : x.fits) (hx' : x'.fits) (hp : plainSv ch x = 0) (hp' : plainSv ch x' = 0) : (sBv ch x == sBv ch x') = eqVtQ { x with se := z16 } { x' with se := z16 } := by
  have e1 : sBv ch x = stBv ch x := by unfold sBv; rw [if_pos hp]
  have e2 : sBv ch x' = stBv ch x' := by unfold sBv; rw [if_pos hp']
  rw [e1, e2, Bool.eq_iff_iff, beq_iff_eq, eqVtQ_iff]
  exact ⟨fun h => (vo_inj ch ch x x' hx hx' hp hp' h).2, fun h => vo_same ch x x' h⟩
theorem says_po (ch : ByteArray) (x x' : Po) (hx : x.ok) (hx' : x'.ok) (hp : plainSp ch x = 0) (hp' : plainSp ch x' = 0) : (sBp ch x == sBp ch x') = eqPoQ { x with se := z16 } { x' with se := z16 } := by
  have e1 : sBp ch x = stBp ch x := by unfold sBp; rw [if_pos hp]
  have e2 : sBp ch x' = stBp ch x' := by unfold sBp; rw [if_pos hp']
  rw [e1, e2, Bool.eq_iff_iff, beq_iff_eq, eqPoQ_iff]
  exact ⟨fun h => (po_inj ch ch x x' hx hx' hp hp' h).2, fun h => po_same ch x x' h⟩
/-- Of unlike kinds, or of unlike chains. -/
theorem says_not (j k : Int) (ch ch' : ByteArray) (x x' : Tx) (y y' : Vt) (z z' : Po) (hx : x.ok) (hx' : x'.ok) (hy : y.fits) (hy' : y'.fits) (hz : z.ok) (hz' : z'.ok) (he : sayE j ch x y z = 0) (hf : sayE k ch' x' y' z' = 0) (hn : j % 3 ≠ k % 3 ∨ ch ≠ ch') : (sayB j ch x y z == sayB k ch' x' y' z') = false := by
  have hj : j % 3 = 0 ∨ j % 3 = 1 ∨ j % 3 = 2 := by omega
  have hk : k % 3 = 0 ∨ k % 3 = 1 ∨ k % 3 = 2 := by omega
  have main : sayB j ch x y z ≠ sayB k ch' x' y' z' := by
    unfold sayE at he hf
    unfold sayB
    generalize j % 3 = m at *
    generalize k % 3 = n at *
    rcases hj with rfl | rfl | rfl <;> rcases hk with rfl | rfl | rfl <;> simp only [reduceIte, Int.reduceEq, Int.one_ne_zero] at he hf ⊢ <;> intro h <;> simp only [sB, sBv, sBp, he, hf, reduceIte] at h
    · rcases hn with hn | hn
      · exact hn rfl
      · exact hn (tx_inj ch ch' x x' hx hx' he hf h).1
    · exact tx_vo _ _ _ _ h
    · exact tx_po _ _ _ _ h
    · exact tx_vo _ _ _ _ h.symm
    · rcases hn with hn | hn
      · exact hn rfl
      · exact hn (vo_inj ch ch' y y' hy hy' he hf h).1
    · exact vo_po _ _ _ _ h
    · exact tx_po _ _ _ _ h.symm
    · exact vo_po _ _ _ _ h.symm
    · rcases hn with hn | hn
      · exact hn rfl
      · exact hn (po_inj ch ch' z z' hz hz' he hf h).1
  simpa using main
theorem guard27 (w : World) (x y : Operand) (A B : Array Value) : (eqGuard .eql 27 x y (.agg A) (.agg B)).run Try.prog w = .ok () w := by
  kernel_rfl
theorem guard31n (w : World) (x y : Operand) (A B : Array Value) : (eqGuard .neq 31 x y (.agg A) (.agg B)).run Try.prog w = .ok () w := by
  kernel_rfl
theorem guard33n (w : World) (x y : Operand) (A B : Array Value) : (eqGuard .neq 33 x y (.agg A) (.agg B)).run Try.prog w = .ok () w := by
  kernel_rfl
theorem neqVt (w : World) (v : Vt) (h : v.ok) : (binOp .neq 31 (.agg v.cs.toArray) (.agg v.cs.toArray)).run Try.prog w = .ok (.bool false) w := by
  rw [run_neq_struct, eqVt2 w 9997 v v h h, (eqVtQ_iff v v).2 rfl]
  rfl
theorem neqPo (w : World) (v : Po) (h : v.ok) : (binOp .neq 33 (.agg v.cs.toArray) (.agg v.cs.toArray)).run Try.prog w = .ok (.bool false) w := by
  rw [run_neq_struct, eqPo2 w 9997 v v h h, (eqPoQ_iff v v).2 rfl]
  rfl
end Go.Proofs.Ytpfjllkmaogafaa
