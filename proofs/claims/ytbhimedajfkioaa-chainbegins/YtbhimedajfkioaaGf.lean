/- Texts in one. -/
import Derived.Test.YtbhimedajfkioaaM3
import Derived.ChangeKeysEq
import Derived.Lib.Bytealg
/- Ids held against each other; heights, rounds, times. -/
namespace Go.Proofs.Ytbhimedajfkioaa
open Go.RowKit
set_option linter.unusedVariables false

theorem size27 : (Try.prog.info? 27).map (·.size) = some 32 := by kernel_rfl
theorem size5 : (Try.prog.info? 5).map (·.size) = some 1 := by kernel_rfl
theorem part5 (w : World) (X : List UInt8) (i : Nat) (h : i < X.length) : (part 5 (X.map bv).toArray (i * 1)).run Try.prog w = .ok (bv (X.getD i 0)) w := by
  simp [part, Try.isAgg5, h]
theorem eqItems_u8 (w : World) (d : Nat) (X Y : List UInt8) : ∀ is : List Nat, (∀ i ∈ is, i < X.length ∧ i < Y.length) → (Op.eqItems (d + 1) 5 1 (X.map bv).toArray (Y.map bv).toArray is).run Try.prog w = .ok (is.all fun i => X.getD i 0 == Y.getD i 0) w
  | [], _ => by simp [Op.eqItems]
  | i :: is, h => by
    have h1 := h i (by simp)
    have ih := eqItems_u8 w d X Y is (fun j hj => h j (by simp [hj]))
    have he := run_equalIn_int (P := Try.prog) w d 5 .u8 .u8 ((X.getD i 0).toNat : Int) ((Y.getD i 0).toNat : Int) Try.underlying5
    simp only [Op.eqItems, Sem.run_bind, part5 w X i h1.1, part5 w Y i h1.2, Result.andThen_ok]
    simp only [bv, he, Result.andThen_ok]
    have hb : ((((X.getD i 0).toNat : Nat) : Int) == (((Y.getD i 0).toNat : Nat) : Int)) = (X.getD i 0 == Y.getD i 0) := by
      by_cases hq : X.getD i 0 = Y.getD i 0
      · rw [hq]; simp
      · have : (X.getD i 0).toNat ≠ (Y.getD i 0).toNat := fun q => hq (UInt8.toNat_inj.1 q)
        rw [beq_false_of_ne hq, beq_false_of_ne (by omega)]
    rw [hb]
    rw [List.all_cons]
    cases hq : (X.getD i 0 == Y.getD i 0) with
    | false => rfl
    | true => simpa using ih
theorem all_range (X Y : List UInt8) (n : Nat) (hx : X.length = n) (hy : Y.length = n) : ((List.range n).all fun i => X.getD i 0 == Y.getD i 0) = (X == Y) := by
  by_cases h : X = Y
  · subst h; simp
  · rw [beq_false_of_ne h]
    rw [Bool.eq_false_iff]
    intro q
    apply h
    apply List.ext_getElem (by omega)
    intro i h1 h2
    have := List.all_eq_true.1 q i (by simp; omega)
    simp [h1, h2] at this
    exact this
theorem cells5 : Try.prog.cellsOf 5 = 1 := by kernel_rfl
theorem eqIn27 (w : World) (d : Nat) (X Y : List UInt8) (hx : X.length = 32) (hy : Y.length = 32) : (Op.equalIn (d + 2) 27 (.agg (X.map bv).toArray) (.agg (Y.map bv).toArray)).run Try.prog w = .ok (X == Y) w := by
  obtain ⟨i, hi⟩ : ∃ i, Try.prog.info? 5 = some i := by
    cases hq : Try.prog.info? 5 with
    | none => have := size5; simp [hq] at this
    | some i => exact ⟨i, rfl⟩
  rw [run_equalIn_array w (d + 1) _ _ Try.underlying27 hi, cells5, eqItems_u8 w d X Y _ (fun j hj => by simp at hj; omega), all_range X Y 32 hx hy]
def zid : List UInt8 := List.replicate 32 0
def hB (h : Int) : Bool := decide (1 ≤ h) && decide (h ≤ 1099511627776)
def rB (r : Int) : Bool := decide (0 ≤ r) && decide (r ≤ 65535)
def tB (t : Int) : Bool := decide (t ≤ 1125899906842624)

theorem zid_lit : (zid.map bv).toArray = #[.int .u8 0, .int .u8 0, .int .u8 0, .int .u8 0, .int .u8 0, .int .u8 0, .int .u8 0, .int .u8 0, .int .u8 0, .int .u8 0, .int .u8 0, .int .u8 0, .int .u8 0, .int .u8 0, .int .u8 0, .int .u8 0, .int .u8 0, .int .u8 0, .int .u8 0, .int .u8 0, .int .u8 0, .int .u8 0, .int .u8 0, .int .u8 0, .int .u8 0, .int .u8 0, .int .u8 0, .int .u8 0, .int .u8 0, .int .u8 0, .int .u8 0, .int .u8 0] := rfl
theorem eqz (w : World) (X : List UInt8) (hx : X.length = 32) : (Op.equalIn 10000 27 (.agg (X.map bv).toArray) (.agg #[.int .u8 0, .int .u8 0, .int .u8 0, .int .u8 0, .int .u8 0, .int .u8 0, .int .u8 0, .int .u8 0, .int .u8 0, .int .u8 0, .int .u8 0, .int .u8 0, .int .u8 0, .int .u8 0, .int .u8 0, .int .u8 0, .int .u8 0, .int .u8 0, .int .u8 0, .int .u8 0, .int .u8 0, .int .u8 0, .int .u8 0, .int .u8 0, .int .u8 0, .int .u8 0, .int .u8 0, .int .u8 0, .int .u8 0, .int .u8 0, .int .u8 0, .int .u8 0])).run Try.prog w = .ok (X == zid) w := by
  rw [← zid_lit]
  exact eqIn27 w 9998 X zid hx (by decide)

set_option maxRecDepth 100000 in
theorem none45 (w : World) (X : List UInt8) (hx : X.length = 32) : Calls Try.prog 45 #[.agg (X.map bv).toArray] w fun e w' => e = .returned (.bool (X == zid)) ∧ Turn no w w' := by
  have he := fun W => eqz W X hx
  have hs : (X.map bv).toArray.size = 32 := by simpa using hx
  generalize (X.map bv).toArray = A at *
  have hi : (Try.prog.info? 27).map (·.size) = some A.size := by rw [hs]; exact size27
  go_enter Try.func45, Try.ntmps45
  go_wp2_with (refine wpList_load_row rfl 27 _ rfl w.heap.size rfl 27 A _ _ (Row.new w A 27) Try.underlying27 rfl hi ?_)
  go_ret
  exact ⟨rfl, (Turn.refl no w).alloc _⟩
theorem height43 (w : World) (h : Int) : Calls Try.prog 43 #[.int .u64 h] w fun e w' => e = .returned (.bool (hB h)) ∧ w = w' := by
  by_cases h1 : 1 ≤ h
  · go_enter Try.func43, Try.ntmps43
    go_wp2_with fail
    go_ret
    exact ⟨by simp [hB, h1], rfl⟩
  · have h2 : h < 1 := by omega
    go_enter Try.func43, Try.ntmps43
    go_wp2_with fail
    go_ret
    exact ⟨by simp [hB]; omega, rfl⟩
theorem height52 (w : World) (h : Int) : Calls Try.prog 52 #[.int .u64 h] w fun e w' => e = .returned (.bool (hB h)) ∧ w = w' := by
  by_cases h1 : 1 ≤ h
  · go_enter Try.func52, Try.ntmps52
    go_wp2_with fail
    go_ret
    exact ⟨by simp [hB, h1], rfl⟩
  · have h2 : h < 1 := by omega
    go_enter Try.func52, Try.ntmps52
    go_wp2_with fail
    go_ret
    exact ⟨by simp [hB]; omega, rfl⟩
theorem round44 (w : World) (h : Int) : Calls Try.prog 44 #[.int .i64 h] w fun e w' => e = .returned (.bool (rB h)) ∧ w = w' := by
  by_cases h1 : 0 ≤ h
  · go_enter Try.func44, Try.ntmps44
    go_wp2_with fail
    go_ret
    exact ⟨by simp [rB, h1], rfl⟩
  · have h2 : h < 0 := by omega
    go_enter Try.func44, Try.ntmps44
    go_wp2_with fail
    go_ret
    exact ⟨by simp [rB]; omega, rfl⟩
theorem round53 (w : World) (h : Int) : Calls Try.prog 53 #[.int .i64 h] w fun e w' => e = .returned (.bool (rB h)) ∧ w = w' := by
  by_cases h1 : 0 ≤ h
  · go_enter Try.func53, Try.ntmps53
    go_wp2_with fail
    go_ret
    exact ⟨by simp [rB, h1], rfl⟩
  · have h2 : h < 0 := by omega
    go_enter Try.func53, Try.ntmps53
    go_wp2_with fail
    go_ret
    exact ⟨by simp [rB]; omega, rfl⟩
theorem time46 (w : World) (h : Int) : Calls Try.prog 46 #[.int .u64 h] w fun e w' => e = .returned (.bool (tB h)) ∧ w = w' := by
  go_enter Try.func46, Try.ntmps46
  go_wp2_with fail
  go_ret
  exact ⟨rfl, rfl⟩
theorem time54 (w : World) (h : Int) : Calls Try.prog 54 #[.int .u64 h] w fun e w' => e = .returned (.bool (tB h)) ∧ w = w' := by
  go_enter Try.func54, Try.ntmps54
  go_wp2_with fail
  go_ret
  exact ⟨rfl, rfl⟩
end Go.Proofs.Ytbhimedajfkioaa

/- A certificate's cells; is it none? -/
namespace Go.Proofs.Ytbhimedajfkioaa
open Go.RowKit
set_option linter.unusedVariables false

/-- A certificate's cells. -/
def ctL (h : Nat) (r : Int) (id : List UInt8) (v : Value) : List Value := .int .u64 h :: .int .i64 r :: (id.map bv ++ [v])
theorem ctL_len (h : Nat) (r : Int) (id : List UInt8) (hid : id.length = 32) (v : Value) : (ctL h r id v).length = 35 := by simp [ctL, hid]
theorem ctL_0 (h : Nat) (r : Int) (id : List UInt8) (v : Value) : (ctL h r id v).toArray[(0 : Nat)]? = some (.int .u64 h) := by simp [ctL]
theorem ctL_1 (h : Nat) (r : Int) (id : List UInt8) (v : Value) : (ctL h r id v).toArray[(1 : Nat)]? = some (.int .i64 r) := by simp [ctL]
theorem ctL_id (h : Nat) (r : Int) (id : List UInt8) (v : Value) (j : Nat) (u : Value) (hu : (id.map bv)[j]? = some u) : (ctL h r id v).toArray[2 + j]? = some u := by
  have hj : j < (id.map bv).length := (List.getElem?_eq_some_iff.1 hu).1
  rw [show 2 + j = j + 1 + 1 by omega]
  simp only [ctL, List.getElem?_toArray, List.getElem?_cons_succ]
  rw [List.getElem?_append_left hj]
  exact hu
theorem ctL_34 (h : Nat) (r : Int) (id : List UInt8) (hid : id.length = 32) (v : Value) : (ctL h r id v).toArray[(34 : Nat)]? = some v := by
  simp [ctL, hid]
def zeroB (h : Nat) (r : Int) (id : List UInt8) (n : Nat) : Bool := decide (h = 0) && decide (r = 0) && (id == zid) && decide (n = 0)
set_option maxRecDepth 100000 in
set_option maxHeartbeats 4000000 in
theorem zero42 (w : World) (h : Nat) (r : Int) (id : List UInt8) (hid : id.length = 32) (a : Option Addr) (n cap : Nat) : Calls Try.prog 42 #[.agg (ctL h r id (.slice a n cap)).toArray] w fun e w' => e = .returned (.bool (zeroB h r id n)) ∧ Turn no w w' := by
  have hR := Row.new w (ctL h r id (.slice a n cap)).toArray 30
  have c0 := hR.cell 0 _ (ctL_0 h r id _)
  have c1 := hR.cell 1 _ (ctL_1 h r id _)
  have cid : (w.alloc (.cells (ctL h r id (.slice a n cap)).toArray 30)).rangeAt w.heap.size 2 (id.map bv) := fun j u hu => hR.cell (2 + j) _ (ctL_id h r id _ j u hu)
  have c34 := hR.cell 34 _ (ctL_34 h r id hid _)
  have hi27 : (Try.prog.info? 27).map (·.size) = some (id.map bv).length := by rw [List.length_map, hid]; exact size27
  have HT := shut ((Turn.refl no w).alloc (.cells (ctL h r id (.slice a n cap)).toArray 30))
  have hZ : Shut (zeroB h r id n = (decide (h = 0) && decide (r = 0) && (id == zid) && decide (n = 0))) := rfl
  have hN := none45 (w.alloc (.cells (ctL h r id (.slice a n cap)).toArray 30)) id hid
  have hE := fun W => eqz W id hid
  clear hR hid
  generalize (ctL h r id (.slice a n cap)).toArray = CT at *
  generalize hw0 : w.alloc (.cells CT 30) = w0 at *
  generalize zeroB h r id n = Z at *
  generalize id.map bv = ib at *
  by_cases h0 : h = 0
  · have h0' : ((h : Int) == 0) = true := by simp; omega
    by_cases r0 : r = 0
    · have r0' : (r == 0) = true := by simp; omega
      generalize hq : (id == zid) = q at *
      have HZ2 : Shut (Z = (q && decide (n = 0))) := by show _ = _; rw [hZ.out]; simp [h0, r0]
      clear hZ h0 r0
      cases q with
      | false =>
        have HZ3 : Shut (Z = false) := by show _ = _; rw [HZ2.out]; rfl
        go_enter Try.func42, Try.ntmps42
        go_wp2_with (first | (refine wpList_load_midG (by rfl) 27 (.tmp 12) rfl w.heap.size 2 rfl ib _ cid Try.underlying27 rfl hi27 ?_) | (go_at_call 45; refine hN.mono ?_; rintro e w2 ⟨rfl, t2⟩; have c34 := t2.keep c34 (fun q => q)))
        go_ret
        exact ⟨by rw [HZ3.out]; rfl, HT.out.then_no t2⟩
      | true =>
        by_cases n0 : n = 0
        · have HZ3 : Shut (Z = true) := by show _ = _; rw [HZ2.out]; simp [n0]
          have n0' : ((n : Int) == 0) = true := by simp; omega
          clear n0
          go_enter Try.func42, Try.ntmps42
          go_wp2_with (first | (refine wpList_load_midG (by rfl) 27 (.tmp 12) rfl w.heap.size 2 rfl ib _ cid Try.underlying27 rfl hi27 ?_) | (go_at_call 45; refine hN.mono ?_; rintro e w2 ⟨rfl, t2⟩; have c34 := t2.keep c34 (fun q => q)))
          go_ret
          exact ⟨by rw [HZ3.out]; rfl, HT.out.then_no t2⟩
        · have HZ3 : Shut (Z = false) := by show _ = _; rw [HZ2.out]; simp [n0]
          have n0' : ((n : Int) == 0) = false := by simp; omega
          clear n0
          go_enter Try.func42, Try.ntmps42
          go_wp2_with (first | (refine wpList_load_midG (by rfl) 27 (.tmp 12) rfl w.heap.size 2 rfl ib _ cid Try.underlying27 rfl hi27 ?_) | (go_at_call 45; refine hN.mono ?_; rintro e w2 ⟨rfl, t2⟩; have c34 := t2.keep c34 (fun q => q)))
          go_ret
          exact ⟨by rw [HZ3.out]; rfl, HT.out.then_no t2⟩
    · have r0' : (r == 0) = false := by simp; omega
      have HZ3 : Shut (Z = false) := by show _ = _; rw [hZ.out]; simp [r0]
      clear hZ h0 r0
      go_enter Try.func42, Try.ntmps42
      go_wp2_with fail
      go_ret
      exact ⟨by rw [HZ3.out]; rfl, HT.out⟩
  · have h0' : ((h : Int) == 0) = false := by simp; omega
    have HZ3 : Shut (Z = false) := by show _ = _; rw [hZ.out]; simp [h0]
    clear hZ h0
    go_enter Try.func42, Try.ntmps42
    go_wp2_with fail
    go_ret
    exact ⟨by rw [HZ3.out]; rfl, HT.out⟩
set_option maxRecDepth 100000 in
set_option maxHeartbeats 4000000 in
theorem rzero51 (w : World) (h : Nat) (r : Int) (id : List UInt8) (hid : id.length = 32) (a : Option Addr) (n cap : Nat) : Calls Try.prog 51 #[.agg (ctL h r id (.slice a n cap)).toArray] w fun e w' => e = .returned (.bool (zeroB h r id n)) ∧ Turn no w w' := by
  have hR := Row.new w (ctL h r id (.slice a n cap)).toArray 30
  have c0 := hR.cell 0 _ (ctL_0 h r id _)
  have c1 := hR.cell 1 _ (ctL_1 h r id _)
  have cid : (w.alloc (.cells (ctL h r id (.slice a n cap)).toArray 30)).rangeAt w.heap.size 2 (id.map bv) := fun j u hu => hR.cell (2 + j) _ (ctL_id h r id _ j u hu)
  have c34 := hR.cell 34 _ (ctL_34 h r id hid _)
  have hi27 : (Try.prog.info? 27).map (·.size) = some (id.map bv).length := by rw [List.length_map, hid]; exact size27
  have HT := shut ((Turn.refl no w).alloc (.cells (ctL h r id (.slice a n cap)).toArray 30))
  have hZ : Shut (zeroB h r id n = (decide (h = 0) && decide (r = 0) && (id == zid) && decide (n = 0))) := rfl
  have hN := none45 (w.alloc (.cells (ctL h r id (.slice a n cap)).toArray 30)) id hid
  have hE := fun W => eqz W id hid
  clear hR hid
  generalize (ctL h r id (.slice a n cap)).toArray = CT at *
  generalize hw0 : w.alloc (.cells CT 30) = w0 at *
  generalize zeroB h r id n = Z at *
  generalize id.map bv = ib at *
  by_cases h0 : h = 0
  · have h0' : ((h : Int) == 0) = true := by simp; omega
    by_cases r0 : r = 0
    · have r0' : (r == 0) = true := by simp; omega
      generalize hq : (id == zid) = q at *
      have HZ2 : Shut (Z = (q && decide (n = 0))) := by show _ = _; rw [hZ.out]; simp [h0, r0]
      clear hZ h0 r0
      cases q with
      | false =>
        have HZ3 : Shut (Z = false) := by show _ = _; rw [HZ2.out]; rfl
        go_enter Try.func51, Try.ntmps51
        go_wp2_with (refine wpList_load_midG (by rfl) 27 (.tmp 12) rfl w.heap.size 2 rfl ib _ cid Try.underlying27 rfl hi27 ?_)
        go_ret
        exact ⟨by rw [HZ3.out]; rfl, HT.out⟩
      | true =>
        by_cases n0 : n = 0
        · have HZ3 : Shut (Z = true) := by show _ = _; rw [HZ2.out]; simp [n0]
          have n0' : ((n : Int) == 0) = true := by simp; omega
          clear n0
          go_enter Try.func51, Try.ntmps51
          go_wp2_with (refine wpList_load_midG (by rfl) 27 (.tmp 12) rfl w.heap.size 2 rfl ib _ cid Try.underlying27 rfl hi27 ?_)
          go_ret
          exact ⟨by rw [HZ3.out]; rfl, HT.out⟩
        · have HZ3 : Shut (Z = false) := by show _ = _; rw [HZ2.out]; simp [n0]
          have n0' : ((n : Int) == 0) = false := by simp; omega
          clear n0
          go_enter Try.func51, Try.ntmps51
          go_wp2_with (refine wpList_load_midG (by rfl) 27 (.tmp 12) rfl w.heap.size 2 rfl ib _ cid Try.underlying27 rfl hi27 ?_)
          go_ret
          exact ⟨by rw [HZ3.out]; rfl, HT.out⟩
    · have r0' : (r == 0) = false := by simp; omega
      have HZ3 : Shut (Z = false) := by show _ = _; rw [hZ.out]; simp [r0]
      clear hZ h0 r0
      go_enter Try.func51, Try.ntmps51
      go_wp2_with fail
      go_ret
      exact ⟨by rw [HZ3.out]; rfl, HT.out⟩
  · have h0' : ((h : Int) == 0) = false := by simp; omega
    have HZ3 : Shut (Z = false) := by show _ = _; rw [hZ.out]; simp [h0]
    clear hZ h0
    go_enter Try.func51, Try.ntmps51
    go_wp2_with fail
    go_ret
    exact ⟨by rw [HZ3.out]; rfl, HT.out⟩
end Go.Proofs.Ytbhimedajfkioaa

/- PlainCert. -/
namespace Go.Proofs.Ytbhimedajfkioaa
open Go.RowKit
set_option linter.unusedVariables false

/-- What is wrong with marks behind an index. -/
def scanM : Int → List Mk → Int
  | _, [] => 0
  | p, m :: r => if m.ix < 0 ∨ 64 ≤ m.ix ∨ tB m.tm = false then 41 else if m.ix ≤ p then 42 else scanM m.ix r
theorem scanM_at {l : List Mk} {k : Nat} {m : Mk} (h : l[k]? = some m) (p : Int) : scanM p (l.drop k) = if m.ix < 0 ∨ 64 ≤ m.ix ∨ tB m.tm = false then 41 else if m.ix ≤ p then 42 else scanM m.ix (l.drop (k + 1)) := by
  obtain ⟨hk, rfl⟩ := List.getElem?_eq_some_iff.1 h
  rw [List.drop_eq_getElem_cons hk]
  rfl
def headB (h : Nat) (r : Int) (id : List UInt8) : Bool := hB h && rB r && !(id == zid)
/-- What is wrong with a certificate by itself. -/
def plainE (h : Nat) (r : Int) (id : List UInt8) (l : List Mk) : Int := if zeroB h r id l.length then 0 else if headB h r id = false then 41 else if 64 < l.length then 4 else scanM (-1) l
/-- The index ahead of place k. -/
def prevI (l : List Mk) : Nat → Int
  | 0 => -1
  | k + 1 => (l.getD k mk0).ix
theorem prevI_succ {l : List Mk} {k : Nat} {m : Mk} (h : l[k]? = some m) : prevI l (k + 1) = m.ix := by
  simp [prevI, List.getD_eq_getElem?_getD, h]
theorem size30a : (Try.prog.info? 30).map (·.size) = some 35 := by kernel_rfl
theorem size30 (h : Nat) (r : Int) (id : List UInt8) (hid : id.length = 32) (v : Value) : (Try.prog.info? 30).map (·.size) = some (ctL h r id v).toArray.size := by
  have : (ctL h r id v).toArray.size = 35 := by simpa using ctL_len h r id hid v
  rw [this]
  exact size30a
set_option maxRecDepth 100000 in
set_option maxHeartbeats 40000000 in
theorem plain17 (w : World) (h : Nat) (r : Int) (id : List UInt8) (hid : id.length = 32) (v : Value) (l : List Mk) (hv : Ks w v l) : Calls Try.prog 17 #[.agg (ctL h r id v).toArray] w fun e w' => e = .returned (.int .i64 (plainE h r id l)) ∧ Turn no w w' := by
  obtain ⟨a, cap, rfl, hk0⟩ := hv
  have hR := Row.new w (ctL h r id (.slice a l.length cap)).toArray 30
  have T0 : Turn no w (w.alloc (.cells (ctL h r id (.slice a l.length cap)).toArray 30)) := (Turn.refl no w).alloc _
  have hi27 : (Try.prog.info? 27).map (·.size) = some (id.map bv).length := by rw [List.length_map, hid]; exact size27
  have hi30 := size30 h r id hid (.slice a l.length cap)
  have hz := zero42 (w.alloc (.cells (ctL h r id (.slice a l.length cap)).toArray 30)) h r id hid a l.length cap
  have HK : Shut (∀ W, Turn no (w.alloc (.cells (ctL h r id (.slice a l.length cap)).toArray 30)) W → W.cell? ⟨w.heap.size, 0, none⟩ = some (.int .u64 h) ∧ W.cell? ⟨w.heap.size, 1, none⟩ = some (.int .i64 r) ∧ W.rangeAt w.heap.size 2 (id.map bv) ∧ W.cell? ⟨w.heap.size, 34, none⟩ = some (.slice a l.length cap) ∧ Turn no w W ∧ KsAt W a cap l) := fun W t =>
    ⟨t.keep (hR.cell 0 _ (ctL_0 h r id _)) (fun q => q), t.keep (hR.cell 1 _ (ctL_1 h r id _)) (fun q => q), fun j u hu => t.keep (hR.cell (2 + j) _ (ctL_id h r id _ j u hu)) (fun q => q), t.keep (hR.cell 34 _ (ctL_34 h r id hid _)) (fun q => q), T0.then_no t, hk0.turn_no (T0.then_no t)⟩
  have hle : l.length ≤ 9223372036854775807 := by have := hk0.le; have := hk0.cap; simp only [maxLen] at this; omega
  have HID := shut hid
  clear hk0 T0 hid
  have hE : Shut (plainE h r id l = if zeroB h r id l.length then 0 else if headB h r id = false then 41 else if 64 < l.length then 4 else scanM (-1) l) := rfl
  generalize plainE h r id l = E at *
  obtain ⟨n, hn⟩ : ∃ n, Hid (l.length = n) := ⟨_, rfl⟩
  have hn' : l.length = n := hn.out
  rw [hn'] at hle hz HK hi30 hR hE
  rw [hn']
  clear hn'
  generalize zeroB h r id n = Z at *
  generalize hCT : (ctL h r id (.slice a n cap)).toArray = CT at *
  generalize hib : id.map bv = ib at *
  have HIB := shut hib
  clear hCT hib
  go_enter Try.func17, Try.ntmps17
  go_wp2_with (refine wpList_load_row rfl 30 (.tmp 1) rfl w.heap.size rfl 30 CT _ _ hR Try.underlying30 rfl hi30 ?_)
  generalize w.alloc (.cells CT 30) = w0 at *
  refine hz.mono ?_
  rintro e w1 ⟨rfl, t1⟩
  clear hz hR hi30
  cases Z with
  | true =>
    have HE : Shut (E = 0) := by show _ = _; rw [hE.out]; rfl
    have TT := shut (HK.out w1 t1).2.2.2.2.1
    go_wp2_with fail
    go_ret
    exact ⟨by rw [HE.out]; rfl, TT.out⟩
  | false =>
    have hE2 : Shut (E = if headB h r id = false then 41 else if 64 < n then 4 else scanM (-1) l) := by show _ = _; rw [hE.out]; rfl
    clear hE
    obtain ⟨c0, c1, cid, c34, _, _⟩ := HK.out w1 t1
    have HT1 := shut t1
    clear t1
    go_upto_region 3 with fail
    go_cut [9] from 10 to 24 (fun c wx => c = .bool (!(headB h r id)) ∧ Shut (Turn no w0 wx))
    case first =>
      have hh := height43 w1 h
      have hr2 := round44 w1 r
      have hno := none45 w1 id HID.out
      rw [HIB.out] at hno
      have HH : Shut (headB h r id = (hB h && rB r && !(id == zid))) := rfl
      generalize headB h r id = HB at *
      generalize hB h = b1 at *
      generalize rB r = b2 at *
      generalize (id == zid) = b3 at *
      cases b1 with
      | false =>
        have HX : Shut (HB = false) := by show _ = _; rw [HH.out]; rfl
        go_wp2_with (go_at_call 43; refine hh.mono ?_; rintro e w2 ⟨rfl, rfl⟩)
        go_meet
        case rel => exact ⟨by rw [HX.out]; rfl, HT1⟩
      | true =>
        cases b2 with
        | false =>
          have HX : Shut (HB = false) := by show _ = _; rw [HH.out]; rfl
          go_wp2_with (first | (go_at_call 43; refine hh.mono ?_; rintro e w2 ⟨rfl, rfl⟩) | (go_at_call 44; refine hr2.mono ?_; rintro e w2 ⟨rfl, rfl⟩))
          go_meet
          case rel => exact ⟨by rw [HX.out]; rfl, HT1⟩
        | true =>
          have HX : Shut (HB = !b3) := by show _ = _; rw [HH.out]; rfl
          go_wp2_with (first | (go_at_call 43; refine hh.mono ?_; rintro e w2 ⟨rfl, rfl⟩) | (go_at_call 44; refine hr2.mono ?_; rintro e w2 ⟨rfl, rfl⟩) | (refine wpList_load_midG (by rfl) 27 (.tmp 21) rfl w.heap.size 2 rfl ib _ cid Try.underlying27 rfl hi27 ?_) | (go_at_call 45; refine hno.mono ?_; rintro e w2 ⟨rfl, t2⟩))
          go_meet
          case rel => exact ⟨by rw [HX.out]; simp, HT1.out.then_no t2⟩
    case rest =>
      obtain ⟨rfl, HX⟩ := hcut
      obtain ⟨wx, rfl⟩ : ∃ wx : World, wx = wc := ⟨_, rfl⟩
      obtain ⟨_, _, _, c34, TT, _⟩ := HK.out wx HX.out
      have HTT := shut TT
      clear c0 c1 cid TT
      cases hH : headB h r id with
      | false =>
        have HE : Shut (E = 41) := by show _ = _; rw [hE2.out, hH]; rfl
        clear hE2 hH
        go_wp2_with fail
        go_ret
        exact ⟨by rw [HE.out]; rfl, HTT.out⟩
      | true =>
        by_cases h64 : 64 < n
        · have HE : Shut (E = 4) := by show _ = _; rw [hE2.out, hH, if_neg (by simp), if_pos h64]
          have h64' : (64 : Int) < (n : Int) := by omega
          clear hE2 hH
          go_wp2_with fail
          go_ret
          exact ⟨by rw [HE.out]; rfl, HTT.out⟩
        have HE : Shut (E = scanM (-1) l) := by show _ = _; rw [hE2.out, hH, if_neg (by simp), if_neg h64]
        have h64' : ¬ (64 : Int) < (n : Int) := by omega
        clear hE2 hH
        go_wp2_with fail
        go_loopw [3, 33] (fun p c wr => ∃ (k : Nat) (q : Int), k ≤ n ∧ c = .int .i64 k ∧ p = .int .i64 q ∧ Shut (scanM (-1) l = scanM q (l.drop k) ∧ Turn no w0 wr)) (fun _ c _ => n - (intOf c).toNat)
        case atStart => exact ⟨0, -1, by omega, rfl, rfl, rfl, HX.out⟩
        case round =>
          clear c34
          obtain ⟨k, q, hk, rfl, rfl, HI⟩ := hrel
          obtain ⟨_, _, _, _, TT, hA⟩ := HK.out wr HI.out.2
          by_cases hlt : k < n
          · obtain ⟨m, hm⟩ : ∃ m, l[k]? = some m := ⟨l[k]'(by rw [hn.out]; exact hlt), List.getElem?_eq_getElem _⟩
            obtain ⟨b, off, rfl, hr⟩ := hA.range k m hm
            have hs1 := size50 m
            have hs2 := size50A m
            have hs3 := one50 m
            have hs4 := z50 m
            have hm0 : (mkL m).toArray[(0 : Nat)]? = some (.int .i64 m.ix) := rfl
            have hm1 : (mkL m).toArray[(1 : Nat)]? = some (.int .u64 m.tm) := rfl
            have hlt' : (k : Int) < (n : Int) := by omega
            have hk1 : Hid (k + 1 ≤ n) := hlt
            have HST := shut (scanM_at hm q)
            clear hm hA
            generalize mkL m = ms at *
            go_upto_region 11 with (first | (refine wpList_load_mid rfl 50 (.tmp 35) rfl b (off + k * 18) rfl ms _ hr Try.underlying50 rfl hs1 ?_) | (refine wpList_store_any rfl 50 (.tmp 5) (.tmp 36) rfl wr.heap.size ms.toArray rfl rfl 50 Z50 (Row.new wr Z50 50) hs2 hs4 hs3 ?_; intro w2 R1 t1))
            have TA := shut ((HI.out.2.alloc (.cells Z50 50)).trans t1 (S' := fun z => z = wr.heap.size) (fun i hi e => by have := HI.out.2.size; omega))
            have hx0 := R1.cell 0 _ hm0
            have hx1 := R1.cell 1 _ hm1
            have TTA := shut (HK.out _ TA.out).2.2.2.2.1
            have htt := time46 w2 m.tm
            have HI1 := shut HI.out.1
            clear R1 t1 hr hs1 hs2 hs3 hs4 hm0 hm1 HI TT
            by_cases a1 : m.ix < 0
            · have HE2 : Shut (E = 41) := by show _ = _; rw [HE.out, HI1.out, HST.out, if_pos (.inl a1)]
              clear HE HI1 HST
              go_wp2_with fail
              go_ret
              exact ⟨by rw [HE2.out]; rfl, TTA.out⟩
            have a1' : ¬ m.ix < 0 := a1
            by_cases a2 : 64 ≤ m.ix
            · have HE2 : Shut (E = 41) := by show _ = _; rw [HE.out, HI1.out, HST.out, if_pos (.inr (.inl a2))]
              clear HE HI1 HST
              go_wp2_with fail
              go_ret
              exact ⟨by rw [HE2.out]; rfl, TTA.out⟩
            have a2' : ¬ 64 ≤ m.ix := a2
            cases a3 : tB m.tm with
            | false =>
              have HE2 : Shut (E = 41) := by show _ = _; rw [HE.out, HI1.out, HST.out, if_pos (.inr (.inr a3))]
              rw [a3] at htt
              clear HE HI1 HST a3
              go_wp2_with (go_at_call 46; refine htt.mono ?_; rintro e w3 ⟨rfl, rfl⟩)
              go_ret
              exact ⟨by rw [HE2.out]; rfl, TTA.out⟩
            | true =>
              have HS2 : Shut (scanM q (l.drop k) = if m.ix ≤ q then 42 else scanM m.ix (l.drop (k + 1))) := by
                show _ = _
                rw [HST.out, if_neg]
                rintro (z | z | z)
                · exact a1 z
                · exact a2 z
                · rw [a3] at z; cases z
              rw [a3] at htt
              clear a3 HST
              by_cases a4 : m.ix ≤ q
              · have HE2 : Shut (E = 42) := by show _ = _; rw [HE.out, HI1.out, HS2.out, if_pos a4]
                clear HE HI1 HS2
                go_wp2_with (go_at_call 46; refine htt.mono ?_; rintro e w3 ⟨rfl, rfl⟩)
                go_ret
                exact ⟨by rw [HE2.out]; rfl, TTA.out⟩
              · have HN : Shut (scanM (-1) l = scanM m.ix (l.drop (k + 1))) := by show _ = _; rw [HI1.out, HS2.out, if_neg a4]
                clear HE HI1 HS2
                go_wp2_with (go_at_call 46; refine htt.mono ?_; rintro e w3 ⟨rfl, rfl⟩)
                go_roundw
                case rel => exact ⟨k + 1, m.ix, hk1.out, by go_num, rfl, HN.out, TA.out⟩
                case measure => have := hk1.out; simp [intOf]; omega
          · have hkn : n = k := by omega
            subst hkn
            have hlt' : ¬ (n : Int) < (n : Int) := by omega
            have HE2 : Shut (E = 0) := by
              show _ = _
              rw [HE.out, HI.out.1, List.drop_of_length_le (by rw [hn.out]; exact Nat.le_refl _)]
              rfl
            have HTF := shut TT
            clear HE HI hA TT
            go_wp2_with fail
            go_ret
            exact ⟨by rw [HE2.out]; rfl, HTF.out⟩
end Go.Proofs.Ytbhimedajfkioaa
