/- A certificate's cells; is it none? -/
import Derived.Test.YtbhimedajfkioaaN0
namespace Go.Proofs.Ytbhimedajfkioaa
open Go.RowKit
set_option linter.unusedVariables false

/-- A certificate's cells. -/
def ctL (h : Nat) (r : Int) (id : List UInt8) (v : Value) : List Value := .int .u64 h :: .int .i64 r :: (id.map bv ++ [v])
theorem ctL_len (h : Nat) (r : Int) (id : List UInt8) (hid : id.length = 32) (v : Value) : (ctL h r id v).length = 35 := by simp [ctL, hid]
theorem ctL_0 (h : Nat) (r : Int) (id : List UInt8) (v : Value) : (ctL h r id v).toArray[(0 : Nat)]? = some (.int .u64 h) := by simp [ctL]
theorem ctL_1 (h : Nat) (r : Int) (id : List UInt8) (v : Value) : (ctL h r id v).toArray[(1 : Nat)]? = some (.int .i64 r) := by simp [ctL]
theorem ctL_id (h : Nat) (r : Int) (id : List UInt8) (v : Value) (j : Nat) (u : Value) (hu : (id.map bv)[j]? = some u) : (ctL h r id v).toArray[2 + j]? = some u := by
  have hj : j < (id.map bv).length := (List.getElem?_eq_some_iff.1 hu).1
  rw [show 2 + j = j + 1 + 1 by omega]
  simp only [ctL, List.getElem?_toArray, List.getElem?_cons_succ]
  rw [List.getElem?_append_left hj]
  exact hu
theorem ctL_34 (h : Nat) (r : Int) (id : List UInt8) (hid : id.length = 32) (v : Value) : (ctL h r id v).toArray[(34 : Nat)]? = some v := by
  simp [ctL, hid]
def zeroB (h : Nat) (r : Int) (id : List UInt8) (n : Nat) : Bool := decide (h = 0) && decide (r = 0) && (id == zid) && decide (n = 0)
set_option maxRecDepth 100000 in
set_option maxHeartbeats 4000000 in
theorem zero42 (w : World) (h : Nat) (r : Int) (id : List UInt8) (hid : id.length = 32) (a : Option Addr) (n cap : Nat) : Calls Try.prog 42 #[.agg (ctL h r id (.slice a n cap)).toArray] w fun e w' => e = .returned (.bool (zeroB h r id n)) ∧ Turn no w w' := by
  have hR := Row.new w (ctL h r id (.slice a n cap)).toArray 30
  have c0 := hR.cell 0 _ (ctL_0 h r id _)
  have c1 := hR.cell 1 _ (ctL_1 h r id _)
  have cid : (w.alloc (.cells (ctL h r id (.slice a n cap)).toArray 30)).rangeAt w.heap.size 2 (id.map bv) := fun j u hu => hR.cell (2 + j) _ (ctL_id h r id _ j u hu)
  have c34 := hR.cell 34 _ (ctL_34 h r id hid _)
  have hi27 : (Try.prog.info? 27).map (·.size) = some (id.map bv).length := by rw [List.length_map, hid]; exact size27
  have HT := shut ((Turn.refl no w).alloc (.cells (ctL h r id (.slice a n cap)).toArray 30))
  have hZ : Shut (zeroB h r id n = (decide (h = 0) && decide (r = 0) && (id == zid) && decide (n = 0))) := rfl
  have hN := none45 (w.alloc (.cells (ctL h r id (.slice a n cap)).toArray 30)) id hid
  have hE := fun W => eqz W id hid
  clear hR hid
  generalize (ctL h r id (.slice a n cap)).toArray = CT at *
  generalize hw0 : w.alloc (.cells CT 30) = w0 at *
  generalize zeroB h r id n = Z at *
  generalize id.map bv = ib at *
  by_cases h0 : h = 0
  · have h0' : ((h : Int) == 0) = true := by simp; omega
    by_cases r0 : r = 0
    · have r0' : (r == 0) = true := by simp; omega
      generalize hq : (id == zid) = q at *
      have HZ2 : Shut (Z = (q && decide (n = 0))) := by show _ = _; rw [hZ.out]; simp [h0, r0]
      clear hZ h0 r0
      cases q with
      | false =>
        have HZ3 : Shut (Z = false) := by show _ = _; rw [HZ2.out]; rfl
        go_enter Try.func42, Try.ntmps42
        go_wp2_with (first | (refine wpList_load_midG (by rfl) 27 (.tmp 12) rfl w.heap.size 2 rfl ib _ cid Try.underlying27 rfl hi27 ?_) | (go_at_call 45; refine hN.mono ?_; rintro e w2 ⟨rfl, t2⟩; have c34 := t2.keep c34 (fun q => q)))
        go_ret
        exact ⟨by rw [HZ3.out]; rfl, HT.out.then_no t2⟩
      | true =>
        by_cases n0 : n = 0
        · have HZ3 : Shut (Z = true) := by show _ = _; rw [HZ2.out]; simp [n0]
          have n0' : ((n : Int) == 0) = true := by simp; omega
          clear n0
          go_enter Try.func42, Try.ntmps42
          go_wp2_with (first | (refine wpList_load_midG (by rfl) 27 (.tmp 12) rfl w.heap.size 2 rfl ib _ cid Try.underlying27 rfl hi27 ?_) | (go_at_call 45; refine hN.mono ?_; rintro e w2 ⟨rfl, t2⟩; have c34 := t2.keep c34 (fun q => q)))
          go_ret
          exact ⟨by rw [HZ3.out]; rfl, HT.out.then_no t2⟩
        · have HZ3 : Shut (Z = false) := by show _ = _; rw [HZ2.out]; simp [n0]
          have n0' : ((n : Int) == 0) = false := by simp; omega
          clear n0
          go_enter Try.func42, Try.ntmps42
          go_wp2_with (first | (refine wpList_load_midG (by rfl) 27 (.tmp 12) rfl w.heap.size 2 rfl ib _ cid Try.underlying27 rfl hi27 ?_) | (go_at_call 45; refine hN.mono ?_; rintro e w2 ⟨rfl, t2⟩; have c34 := t2.keep c34 (fun q => q)))
          go_ret
          exact ⟨by rw [HZ3.out]; rfl, HT.out.then_no t2⟩
    · have r0' : (r == 0) = false := by simp; omega
      have HZ3 : Shut (Z = false) := by show _ = _; rw [hZ.out]; simp [r0]
      clear hZ h0 r0
      go_enter Try.func42, Try.ntmps42
      go_wp2_with fail
      go_ret
      exact ⟨by rw [HZ3.out]; rfl, HT.out⟩
  · have h0' : ((h : Int) == 0) = false := by simp; omega
    have HZ3 : Shut (Z = false) := by show _ = _; rw [hZ.out]; simp [h0]
    clear hZ h0
    go_enter Try.func42, Try.ntmps42
    go_wp2_with fail
    go_ret
    exact ⟨by rw [HZ3.out]; rfl, HT.out⟩
set_option maxRecDepth 100000 in
set_option maxHeartbeats 4000000 in
theorem rzero51 (w : World) (h : Nat) (r : Int) (id : List UInt8) (hid : id.length = 32) (a : Option Addr) (n cap : Nat) : Calls Try.prog 51 #[.agg (ctL h r id (.slice a n cap)).toArray] w fun e w' => e = .returned (.bool (zeroB h r id n)) ∧ Turn no w w' := by
  have hR := Row.new w (ctL h r id (.slice a n cap)).toArray 30
  have c0 := hR.cell 0 _ (ctL_0 h r id _)
  have c1 := hR.cell 1 _ (ctL_1 h r id _)
  have cid : (w.alloc (.cells (ctL h r id (.slice a n cap)).toArray 30)).rangeAt w.heap.size 2 (id.map bv) := fun j u hu => hR.cell (2 + j) _ (ctL_id h r id _ j u hu)
  have c34 := hR.cell 34 _ (ctL_34 h r id hid _)
  have hi27 : (Try.prog.info? 27).map (·.size) = some (id.map bv).length := by rw [List.length_map, hid]; exact size27
  have HT := shut ((Turn.refl no w).alloc (.cells (ctL h r id (.slice a n cap)).toArray 30))
  have hZ : Shut (zeroB h r id n = (decide (h = 0) && decide (r = 0) && (id == zid) && decide (n = 0))) := rfl
  have hN := none45 (w.alloc (.cells (ctL h r id (.slice a n cap)).toArray 30)) id hid
  have hE := fun W => eqz W id hid
  clear hR hid
  generalize (ctL h r id (.slice a n cap)).toArray = CT at *
  generalize hw0 : w.alloc (.cells CT 30) = w0 at *
  generalize zeroB h r id n = Z at *
  generalize id.map bv = ib at *
  by_cases h0 : h = 0
  · have h0' : ((h : Int) == 0) = true := by simp; omega
    by_cases r0 : r = 0
    · have r0' : (r == 0) = true := by simp; omega
      generalize hq : (id == zid) = q at *
      have HZ2 : Shut (Z = (q && decide (n = 0))) := by show _ = _; rw [hZ.out]; simp [h0, r0]
      clear hZ h0 r0
      cases q with
      | false =>
        have HZ3 : Shut (Z = false) := by show _ = _; rw [HZ2.out]; rfl
        go_enter Try.func51, Try.ntmps51
        go_wp2_with (refine wpList_load_midG (by rfl) 27 (.tmp 12) rfl w.heap.size 2 rfl ib _ cid Try.underlying27 rfl hi27 ?_)
        go_ret
        exact ⟨by rw [HZ3.out]; rfl, HT.out⟩
      | true =>
        by_cases n0 : n = 0
        · have HZ3 : Shut (Z = true) := by show _ = _; rw [HZ2.out]; simp [n0]
          have n0' : ((n : Int) == 0) = true := by simp; omega
          clear n0
          go_enter Try.func51, Try.ntmps51
          go_wp2_with (refine wpList_load_midG (by rfl) 27 (.tmp 12) rfl w.heap.size 2 rfl ib _ cid Try.underlying27 rfl hi27 ?_)
          go_ret
          exact ⟨by rw [HZ3.out]; rfl, HT.out⟩
        · have HZ3 : Shut (Z = false) := by show _ = _; rw [HZ2.out]; simp [n0]
          have n0' : ((n : Int) == 0) = false := by simp; omega
          clear n0
          go_enter Try.func51, Try.ntmps51
          go_wp2_with (refine wpList_load_midG (by rfl) 27 (.tmp 12) rfl w.heap.size 2 rfl ib _ cid Try.underlying27 rfl hi27 ?_)
          go_ret
          exact ⟨by rw [HZ3.out]; rfl, HT.out⟩
    · have r0' : (r == 0) = false := by simp; omega
      have HZ3 : Shut (Z = false) := by show _ = _; rw [hZ.out]; simp [r0]
      clear hZ h0 r0
      go_enter Try.func51, Try.ntmps51
      go_wp2_with fail
      go_ret
      exact ⟨by rw [HZ3.out]; rfl, HT.out⟩
  · have h0' : ((h : Int) == 0) = false := by simp; omega
    have HZ3 : Shut (Z = false) := by show _ = _; rw [hZ.out]; simp [h0]
    clear hZ h0
    go_enter Try.func51, Try.ntmps51
    go_wp2_with fail
    go_ret
    exact ⟨by rw [HZ3.out]; rfl, HT.out⟩
end Go.Proofs.Ytbhimedajfkioaa
