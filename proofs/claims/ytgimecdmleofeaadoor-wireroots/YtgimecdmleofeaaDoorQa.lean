/- Texts in one. -/
import Derived.Test.YtgimecdmleofeaaDoorU1
import Derived.Test.YtgimecdmleofeaaDoorJz
import Derived.Deep.RegionHeld3
import Derived.Deep.CutRange
/- A list of marks in memory. -/
namespace Go.Proofs.YtgimecdmleofeaaDoor
open Go.RowKit
set_option linter.unusedVariables false

def Shup (p : Prop) : Prop := p
theorem Shup.out {p : Prop} (h : Shup p) : p := h
theorem shup {p : Prop} (h : p) : Shup p := h
/-- A mark. -/
structure Mk where
  ix : Int
  tm : Nat
  se : List UInt8
def mk0 : Mk := ⟨0, 0, List.replicate 16 0⟩
def Mk.ok (m : Mk) : Prop := (-9223372036854775808 ≤ m.ix ∧ m.ix < 9223372036854775808) ∧ m.tm < 18446744073709551616 ∧ m.se.length = 16
/-- A mark's cells. -/
def mkL (m : Mk) : List Value := .int .i64 m.ix :: .int .u64 m.tm :: m.se.map bv
theorem mkL_len {m : Mk} (h : m.ok) : (mkL m).length = 18 := by simp [mkL, h.2.2]
theorem mkL_one (m : Mk) : ∀ v ∈ mkL m, v.oneCell' = true := by
  intro v hv
  simp only [mkL, List.mem_cons, List.mem_map] at hv
  rcases hv with rfl | rfl | ⟨b, _, rfl⟩ <;> rfl
/-- A list of marks, wherever it lies. -/
structure KsAt (w : World) (a : Option Addr) (cap : Nat) (l : List Mk) : Prop where
  le : l.length ≤ cap
  cap : cap ≤ maxLen
  ok : ∀ m ∈ l, m.ok
  cells : ∀ (j : Nat) m, l[j]? = some m → ∃ b off, a = some ⟨b, off, none⟩ ∧ ∀ i v, (mkL m)[i]? = some v → w.cell? ⟨b, off + j * 18 + i, none⟩ = some v
def Ks (w : World) (v : Value) (l : List Mk) : Prop := ∃ a cap, v = .slice a l.length cap ∧ KsAt w a cap l
theorem KsAt.turn {S : Nat → Prop} {w w' : World} {a : Option Addr} {cap : Nat} {l : List Mk} (h : KsAt w a cap l) (t : Turn S w w') (hn : ∀ x, a = some x → ¬ S x.block) : KsAt w' a cap l :=
  ⟨h.le, h.cap, h.ok, fun j m hj => by
    obtain ⟨b, off, e, c⟩ := h.cells j m hj
    exact ⟨b, off, e, fun i v hi => t.keep (c i v hi) (by have := hn _ e; exact this)⟩⟩
theorem KsAt.turn_no {w w' : World} {a : Option Addr} {cap : Nat} {l : List Mk} (h : KsAt w a cap l) (t : Turn no w w') : KsAt w' a cap l := h.turn t (fun _ _ q => q)
theorem Ks.turn_no {w w' : World} {v : Value} {l : List Mk} (h : Ks w v l) (t : Turn no w w') : Ks w' v l := by
  obtain ⟨a, cap, e, h⟩ := h
  exact ⟨a, cap, e, h.turn_no t⟩
theorem Ks.oks {w : World} {v : Value} {l : List Mk} (h : Ks w v l) : ∀ m ∈ l, m.ok := by
  obtain ⟨x, y, e, h⟩ := h
  exact h.ok
section
variable {P : Program} {ops : Array Oper} {rest : List Oper} {o : Oper} {a : Act} {w : World} {Q : Exit → Act → World → Prop}
theorem wpList_store_any (hgd : o.guard = none) (ty : TypeId) (x y : Operand) (ho : o.op = .store ty x y)
    (g : Nat) (cells : Array Value) (hx : a.eval x = .pointer (some ⟨g, 0, none⟩)) (hy : a.eval y = .agg cells)
    (t : TypeId) (old : Array Value) (hg : Row w g old t) (hi : (P.info? ty).map (·.size) = some cells.size)
    (hold : old.size = cells.size) (h1 : cells.all (·.oneCell') = true)
    (h : ∀ w', Row w' g cells t → Turn (fun k => k = g) w w' → wpList P ops Q rest (a.put o.dst undef) w') : wpList P ops Q (o :: rest) a w :=
  wpList_store_row hgd ty x y ho g cells hx hy t old hg hi hold h1 (h _ (hg.setSame cells) ((Turn.refl _ w).setRow g cells (fun _ => rfl)))
end
def Z50 : Array Value := (mkL mk0).toArray
theorem size108 : (Tryd.prog.info? 108).map (·.size) = some 18 := by kernel_rfl
theorem zero108 (w : World) : (zeroValue 108).run Tryd.prog w = .ok (.agg Z50) w := by kernel_rfl
theorem size50 {m : Mk} (h : m.ok) : (Tryd.prog.info? 108).map (·.size) = some (mkL m).length := by rw [mkL_len h]; exact size108
theorem size50A {m : Mk} (h : m.ok) : (Tryd.prog.info? 108).map (·.size) = some (mkL m).toArray.size := by rw [List.size_toArray, mkL_len h]; exact size108
theorem one50 (m : Mk) : (mkL m).toArray.all (·.oneCell') = true := by
  simp only [List.all_toArray, List.all_eq_true]
  exact mkL_one m
theorem z50 {m : Mk} (h : m.ok) : Z50.size = (mkL m).toArray.size := by exact (by rfl : Z50.size = 18).trans (by simpa using (mkL_len h).symm)
/-- A mark of a list, as a range of cells. -/
theorem KsAt.range {w : World} {a : Option Addr} {cap : Nat} {l : List Mk} (h : KsAt w a cap l) (j : Nat) (m : Mk) (hj : l[j]? = some m) : ∃ b off, a = some ⟨b, off, none⟩ ∧ w.rangeAt b (off + j * 18) (mkL m) := by
  obtain ⟨b, off, e, c⟩ := h.cells j m hj
  exact ⟨b, off, e, fun i v hi => c i v hi⟩
end Go.Proofs.YtgimecdmleofeaaDoor

/- A certificate's cells; is it none? -/
namespace Go.Proofs.YtgimecdmleofeaaDoor
open Go.RowKit
set_option linter.unusedVariables false

/-- A certificate's cells. -/
def ctL (h : Nat) (r : Int) (id : List UInt8) (v : Value) : List Value := .int .u64 h :: .int .i64 r :: (id.map bv ++ [v])
theorem ctL_len (h : Nat) (r : Int) (id : List UInt8) (hid : id.length = 32) (v : Value) : (ctL h r id v).length = 35 := by simp [ctL, hid]
theorem ctL_0 (h : Nat) (r : Int) (id : List UInt8) (v : Value) : (ctL h r id v).toArray[(0 : Nat)]? = some (.int .u64 h) := by simp [ctL]
theorem ctL_1 (h : Nat) (r : Int) (id : List UInt8) (v : Value) : (ctL h r id v).toArray[(1 : Nat)]? = some (.int .i64 r) := by simp [ctL]
theorem ctL_id (h : Nat) (r : Int) (id : List UInt8) (v : Value) (j : Nat) (u : Value) (hu : (id.map bv)[j]? = some u) : (ctL h r id v).toArray[2 + j]? = some u := by
  have hj : j < (id.map bv).length := (List.getElem?_eq_some_iff.1 hu).1
  rw [show 2 + j = j + 1 + 1 by omega]
  simp only [ctL, List.getElem?_toArray, List.getElem?_cons_succ]
  rw [List.getElem?_append_left hj]
  exact hu
theorem ctL_34 (h : Nat) (r : Int) (id : List UInt8) (hid : id.length = 32) (v : Value) : (ctL h r id v).toArray[(34 : Nat)]? = some v := by
  simp [ctL, hid]
def zeroB (h : Nat) (r : Int) (id : List UInt8) (n : Nat) : Bool := decide (h = 0) && decide (r = 0) && (id == zid) && decide (n = 0)
set_option maxRecDepth 100000 in
set_option maxHeartbeats 4000000 in
theorem zero42 (w : World) (h : Nat) (r : Int) (id : List UInt8) (hid : id.length = 32) (a : Option Addr) (n cap : Nat) : Calls Tryd.prog 26 #[.agg (ctL h r id (.slice a n cap)).toArray] w fun e w' => e = .returned (.bool (zeroB h r id n)) ∧ Turn no w w' := by
  have hR := Row.new w (ctL h r id (.slice a n cap)).toArray 34
  have c0 := hR.cell 0 _ (ctL_0 h r id _)
  have c1 := hR.cell 1 _ (ctL_1 h r id _)
  have cid : (w.alloc (.cells (ctL h r id (.slice a n cap)).toArray 34)).rangeAt w.heap.size 2 (id.map bv) := fun j u hu => hR.cell (2 + j) _ (ctL_id h r id _ j u hu)
  have c34 := hR.cell 34 _ (ctL_34 h r id hid _)
  have hi27 : (Tryd.prog.info? 29).map (·.size) = some (id.map bv).length := by rw [List.length_map, hid]; exact size24
  have HT := shup ((Turn.refl no w).alloc (.cells (ctL h r id (.slice a n cap)).toArray 34))
  have hZ : Shup (zeroB h r id n = (decide (h = 0) && decide (r = 0) && (id == zid) && decide (n = 0))) := rfl
  have hN := none15 (w.alloc (.cells (ctL h r id (.slice a n cap)).toArray 34)) id hid
  have hE := fun W => eqz W id hid
  clear hR hid
  generalize (ctL h r id (.slice a n cap)).toArray = CT at *
  generalize hw0 : w.alloc (.cells CT 34) = w0 at *
  generalize zeroB h r id n = Z at *
  generalize id.map bv = ib at *
  by_cases h0 : h = 0
  · have h0' : ((h : Int) == 0) = true := by simp; omega
    by_cases r0 : r = 0
    · have r0' : (r == 0) = true := by simp; omega
      generalize hq : (id == zid) = q at *
      have HZ2 : Shup (Z = (q && decide (n = 0))) := by show _ = _; rw [hZ.out]; simp [h0, r0]
      clear hZ h0 r0
      cases q with
      | false =>
        have HZ3 : Shup (Z = false) := by show _ = _; rw [HZ2.out]; rfl
        go_enter Tryd.func26, Tryd.ntmps26
        go_wp2_with (first | (refine wpList_load_midG (by rfl) 29 (.tmp 12) rfl w.heap.size 2 rfl ib _ cid Tryd.underlying29 rfl hi27 ?_) | (go_at_call 64; refine hN.mono ?_; rintro e w2 ⟨rfl, t2⟩; have c34 := t2.keep c34 (fun q => q)))
        go_ret
        exact ⟨by rw [HZ3.out]; rfl, HT.out.then_no t2⟩
      | true =>
        by_cases n0 : n = 0
        · have HZ3 : Shup (Z = true) := by show _ = _; rw [HZ2.out]; simp [n0]
          have n0' : ((n : Int) == 0) = true := by simp; omega
          clear n0
          go_enter Tryd.func26, Tryd.ntmps26
          go_wp2_with (first | (refine wpList_load_midG (by rfl) 29 (.tmp 12) rfl w.heap.size 2 rfl ib _ cid Tryd.underlying29 rfl hi27 ?_) | (go_at_call 64; refine hN.mono ?_; rintro e w2 ⟨rfl, t2⟩; have c34 := t2.keep c34 (fun q => q)))
          go_ret
          exact ⟨by rw [HZ3.out]; rfl, HT.out.then_no t2⟩
        · have HZ3 : Shup (Z = false) := by show _ = _; rw [HZ2.out]; simp [n0]
          have n0' : ((n : Int) == 0) = false := by simp; omega
          clear n0
          go_enter Tryd.func26, Tryd.ntmps26
          go_wp2_with (first | (refine wpList_load_midG (by rfl) 29 (.tmp 12) rfl w.heap.size 2 rfl ib _ cid Tryd.underlying29 rfl hi27 ?_) | (go_at_call 64; refine hN.mono ?_; rintro e w2 ⟨rfl, t2⟩; have c34 := t2.keep c34 (fun q => q)))
          go_ret
          exact ⟨by rw [HZ3.out]; rfl, HT.out.then_no t2⟩
    · have r0' : (r == 0) = false := by simp; omega
      have HZ3 : Shup (Z = false) := by show _ = _; rw [hZ.out]; simp [r0]
      clear hZ h0 r0
      go_enter Tryd.func26, Tryd.ntmps26
      go_wp2_with fail
      go_ret
      exact ⟨by rw [HZ3.out]; rfl, HT.out⟩
  · have h0' : ((h : Int) == 0) = false := by simp; omega
    have HZ3 : Shup (Z = false) := by show _ = _; rw [hZ.out]; simp [h0]
    clear hZ h0
    go_enter Tryd.func26, Tryd.ntmps26
    go_wp2_with fail
    go_ret
    exact ⟨by rw [HZ3.out]; rfl, HT.out⟩
set_option maxRecDepth 100000 in
set_option maxHeartbeats 4000000 in
theorem rzero51 (w : World) (h : Nat) (r : Int) (id : List UInt8) (hid : id.length = 32) (a : Option Addr) (n cap : Nat) : Calls Tryd.prog 36 #[.agg (ctL h r id (.slice a n cap)).toArray] w fun e w' => e = .returned (.bool (zeroB h r id n)) ∧ Turn no w w' := by
  have hR := Row.new w (ctL h r id (.slice a n cap)).toArray 34
  have c0 := hR.cell 0 _ (ctL_0 h r id _)
  have c1 := hR.cell 1 _ (ctL_1 h r id _)
  have cid : (w.alloc (.cells (ctL h r id (.slice a n cap)).toArray 34)).rangeAt w.heap.size 2 (id.map bv) := fun j u hu => hR.cell (2 + j) _ (ctL_id h r id _ j u hu)
  have c34 := hR.cell 34 _ (ctL_34 h r id hid _)
  have hi27 : (Tryd.prog.info? 29).map (·.size) = some (id.map bv).length := by rw [List.length_map, hid]; exact size24
  have HT := shup ((Turn.refl no w).alloc (.cells (ctL h r id (.slice a n cap)).toArray 34))
  have hZ : Shup (zeroB h r id n = (decide (h = 0) && decide (r = 0) && (id == zid) && decide (n = 0))) := rfl
  have hN := none15 (w.alloc (.cells (ctL h r id (.slice a n cap)).toArray 34)) id hid
  have hE := fun W => eqz W id hid
  clear hR hid
  generalize (ctL h r id (.slice a n cap)).toArray = CT at *
  generalize hw0 : w.alloc (.cells CT 34) = w0 at *
  generalize zeroB h r id n = Z at *
  generalize id.map bv = ib at *
  by_cases h0 : h = 0
  · have h0' : ((h : Int) == 0) = true := by simp; omega
    by_cases r0 : r = 0
    · have r0' : (r == 0) = true := by simp; omega
      generalize hq : (id == zid) = q at *
      have HZ2 : Shup (Z = (q && decide (n = 0))) := by show _ = _; rw [hZ.out]; simp [h0, r0]
      clear hZ h0 r0
      cases q with
      | false =>
        have HZ3 : Shup (Z = false) := by show _ = _; rw [HZ2.out]; rfl
        go_enter Tryd.func36, Tryd.ntmps36
        go_wp2_with (refine wpList_load_midG (by rfl) 29 (.tmp 12) rfl w.heap.size 2 rfl ib _ cid Tryd.underlying29 rfl hi27 ?_)
        go_ret
        exact ⟨by rw [HZ3.out]; rfl, HT.out⟩
      | true =>
        by_cases n0 : n = 0
        · have HZ3 : Shup (Z = true) := by show _ = _; rw [HZ2.out]; simp [n0]
          have n0' : ((n : Int) == 0) = true := by simp; omega
          clear n0
          go_enter Tryd.func36, Tryd.ntmps36
          go_wp2_with (refine wpList_load_midG (by rfl) 29 (.tmp 12) rfl w.heap.size 2 rfl ib _ cid Tryd.underlying29 rfl hi27 ?_)
          go_ret
          exact ⟨by rw [HZ3.out]; rfl, HT.out⟩
        · have HZ3 : Shup (Z = false) := by show _ = _; rw [HZ2.out]; simp [n0]
          have n0' : ((n : Int) == 0) = false := by simp; omega
          clear n0
          go_enter Tryd.func36, Tryd.ntmps36
          go_wp2_with (refine wpList_load_midG (by rfl) 29 (.tmp 12) rfl w.heap.size 2 rfl ib _ cid Tryd.underlying29 rfl hi27 ?_)
          go_ret
          exact ⟨by rw [HZ3.out]; rfl, HT.out⟩
    · have r0' : (r == 0) = false := by simp; omega
      have HZ3 : Shup (Z = false) := by show _ = _; rw [hZ.out]; simp [r0]
      clear hZ h0 r0
      go_enter Tryd.func36, Tryd.ntmps36
      go_wp2_with fail
      go_ret
      exact ⟨by rw [HZ3.out]; rfl, HT.out⟩
  · have h0' : ((h : Int) == 0) = false := by simp; omega
    have HZ3 : Shup (Z = false) := by show _ = _; rw [hZ.out]; simp [h0]
    clear hZ h0
    go_enter Tryd.func36, Tryd.ntmps36
    go_wp2_with fail
    go_ret
    exact ⟨by rw [HZ3.out]; rfl, HT.out⟩
end Go.Proofs.YtgimecdmleofeaaDoor


/- PlainCert. -/
namespace Go.Proofs.YtgimecdmleofeaaDoor
open Go.RowKit
set_option linter.unusedVariables false

/-- What is wrong with marks behind an index. -/
def scanM : Int → List Mk → Int
  | _, [] => 0
  | p, m :: r => if m.ix < 0 ∨ 64 ≤ m.ix ∨ tB m.tm = false then 41 else if m.ix ≤ p then 42 else scanM m.ix r
theorem scanM_at {l : List Mk} {k : Nat} {m : Mk} (h : l[k]? = some m) (p : Int) : scanM p (l.drop k) = if m.ix < 0 ∨ 64 ≤ m.ix ∨ tB m.tm = false then 41 else if m.ix ≤ p then 42 else scanM m.ix (l.drop (k + 1)) := by
  obtain ⟨hk, rfl⟩ := List.getElem?_eq_some_iff.1 h
  rw [List.drop_eq_getElem_cons hk]
  rfl
def headB (h : Nat) (r : Int) (id : List UInt8) : Bool := hB h && rB r && !(id == zid)
/-- What is wrong with a certificate by itself. -/
def plainC (h : Nat) (r : Int) (id : List UInt8) (l : List Mk) : Int := if zeroB h r id l.length then 0 else if headB h r id = false then 41 else if 64 < l.length then 4 else scanM (-1) l
/-- The index ahead of place k. -/
def prevI (l : List Mk) : Nat → Int
  | 0 => -1
  | k + 1 => (l.getD k mk0).ix
theorem prevI_succ {l : List Mk} {k : Nat} {m : Mk} (h : l[k]? = some m) : prevI l (k + 1) = m.ix := by
  simp [prevI, List.getD_eq_getElem?_getD, h]
theorem size30a : (Tryd.prog.info? 34).map (·.size) = some 35 := by kernel_rfl
theorem size30 (h : Nat) (r : Int) (id : List UInt8) (hid : id.length = 32) (v : Value) : (Tryd.prog.info? 34).map (·.size) = some (ctL h r id v).toArray.size := by
  have : (ctL h r id v).toArray.size = 35 := by simpa using ctL_len h r id hid v
  rw [this]
  exact size30a
set_option maxRecDepth 100000 in
set_option maxHeartbeats 40000000 in
theorem plain17 (w : World) (h : Nat) (r : Int) (id : List UInt8) (hid : id.length = 32) (v : Value) (l : List Mk) (hv : Ks w v l) : Calls Tryd.prog 28 #[.agg (ctL h r id v).toArray] w fun e w' => e = .returned (.int .i64 (plainC h r id l)) ∧ Turn no w w' := by
  obtain ⟨a, cap, rfl, hk0⟩ := hv
  have hR := Row.new w (ctL h r id (.slice a l.length cap)).toArray 34
  have T0 : Turn no w (w.alloc (.cells (ctL h r id (.slice a l.length cap)).toArray 34)) := (Turn.refl no w).alloc _
  have hi27 : (Tryd.prog.info? 29).map (·.size) = some (id.map bv).length := by rw [List.length_map, hid]; exact size24
  have hi30 := size30 h r id hid (.slice a l.length cap)
  have hz := zero42 (w.alloc (.cells (ctL h r id (.slice a l.length cap)).toArray 34)) h r id hid a l.length cap
  have HK : Shup (∀ W, Turn no (w.alloc (.cells (ctL h r id (.slice a l.length cap)).toArray 34)) W → W.cell? ⟨w.heap.size, 0, none⟩ = some (.int .u64 h) ∧ W.cell? ⟨w.heap.size, 1, none⟩ = some (.int .i64 r) ∧ W.rangeAt w.heap.size 2 (id.map bv) ∧ W.cell? ⟨w.heap.size, 34, none⟩ = some (.slice a l.length cap) ∧ Turn no w W ∧ KsAt W a cap l) := fun W t =>
    ⟨t.keep (hR.cell 0 _ (ctL_0 h r id _)) (fun q => q), t.keep (hR.cell 1 _ (ctL_1 h r id _)) (fun q => q), fun j u hu => t.keep (hR.cell (2 + j) _ (ctL_id h r id _ j u hu)) (fun q => q), t.keep (hR.cell 34 _ (ctL_34 h r id hid _)) (fun q => q), T0.then_no t, hk0.turn_no (T0.then_no t)⟩
  have hle : l.length ≤ 9223372036854775807 := by have := hk0.le; have := hk0.cap; simp only [maxLen] at this; omega
  have HID := shup hid
  clear hk0 T0 hid
  have hE : Shup (plainC h r id l = if zeroB h r id l.length then 0 else if headB h r id = false then 41 else if 64 < l.length then 4 else scanM (-1) l) := rfl
  generalize plainC h r id l = E at *
  obtain ⟨n, hn⟩ : ∃ n, Hid (l.length = n) := ⟨_, rfl⟩
  have hn' : l.length = n := hn.out
  rw [hn'] at hle hz HK hi30 hR hE
  rw [hn']
  clear hn'
  generalize zeroB h r id n = Z at *
  generalize hCT : (ctL h r id (.slice a n cap)).toArray = CT at *
  generalize hib : id.map bv = ib at *
  have HIB := shup hib
  clear hCT hib
  go_enter Tryd.func28, Tryd.ntmps28
  go_wp2_with (refine wpList_load_row rfl 34 (.tmp 1) rfl w.heap.size rfl 34 CT _ _ hR Tryd.underlying34 rfl hi30 ?_)
  generalize w.alloc (.cells CT 34) = w0 at *
  refine hz.mono ?_
  rintro e w1 ⟨rfl, t1⟩
  clear hz hR hi30
  cases Z with
  | true =>
    have HE : Shup (E = 0) := by show _ = _; rw [hE.out]; rfl
    have TT := shup (HK.out w1 t1).2.2.2.2.1
    go_wp2_with fail
    go_ret
    exact ⟨by rw [HE.out]; rfl, TT.out⟩
  | false =>
    have hE2 : Shup (E = if headB h r id = false then 41 else if 64 < n then 4 else scanM (-1) l) := by show _ = _; rw [hE.out]; rfl
    clear hE
    obtain ⟨c0, c1, cid, c34, _, _⟩ := HK.out w1 t1
    have HT1 := shup t1
    clear t1
    go_upto_region 3 with fail
    go_cut [9] from 10 to 24 (fun c wx => c = .bool (!(headB h r id)) ∧ Shup (Turn no w0 wx))
    case first =>
      have hh := height18 w1 h
      have hr2 := round19 w1 r
      have hno := none15 w1 id HID.out
      rw [HIB.out] at hno
      have HH : Shup (headB h r id = (hB h && rB r && !(id == zid))) := rfl
      generalize headB h r id = HB at *
      generalize hB h = b1 at *
      generalize rB r = b2 at *
      generalize (id == zid) = b3 at *
      cases b1 with
      | false =>
        have HX : Shup (HB = false) := by show _ = _; rw [HH.out]; rfl
        go_wp2_with (go_at_call 60; refine hh.mono ?_; rintro e w2 ⟨rfl, rfl⟩)
        go_meet
        case rel => exact ⟨by rw [HX.out]; rfl, HT1⟩
      | true =>
        cases b2 with
        | false =>
          have HX : Shup (HB = false) := by show _ = _; rw [HH.out]; rfl
          go_wp2_with (first | (go_at_call 60; refine hh.mono ?_; rintro e w2 ⟨rfl, rfl⟩) | (go_at_call 67; refine hr2.mono ?_; rintro e w2 ⟨rfl, rfl⟩))
          go_meet
          case rel => exact ⟨by rw [HX.out]; rfl, HT1⟩
        | true =>
          have HX : Shup (HB = !b3) := by show _ = _; rw [HH.out]; rfl
          go_wp2_with (first | (go_at_call 60; refine hh.mono ?_; rintro e w2 ⟨rfl, rfl⟩) | (go_at_call 67; refine hr2.mono ?_; rintro e w2 ⟨rfl, rfl⟩) | (refine wpList_load_midG (by rfl) 29 (.tmp 21) rfl w.heap.size 2 rfl ib _ cid Tryd.underlying29 rfl hi27 ?_) | (go_at_call 64; refine hno.mono ?_; rintro e w2 ⟨rfl, t2⟩))
          go_meet
          case rel => exact ⟨by rw [HX.out]; simp, HT1.out.then_no t2⟩
    case rest =>
      obtain ⟨rfl, HX⟩ := hcut
      obtain ⟨wx, rfl⟩ : ∃ wx : World, wx = wc := ⟨_, rfl⟩
      obtain ⟨_, _, _, c34, TT, _⟩ := HK.out wx HX.out
      have HTT := shup TT
      clear c0 c1 cid TT
      cases hH : headB h r id with
      | false =>
        have HE : Shup (E = 41) := by show _ = _; rw [hE2.out, hH]; rfl
        clear hE2 hH
        go_wp2_with fail
        go_ret
        exact ⟨by rw [HE.out]; rfl, HTT.out⟩
      | true =>
        by_cases h64 : 64 < n
        · have HE : Shup (E = 4) := by show _ = _; rw [hE2.out, hH, if_neg (by simp), if_pos h64]
          have h64' : (64 : Int) < (n : Int) := by omega
          clear hE2 hH
          go_wp2_with fail
          go_ret
          exact ⟨by rw [HE.out]; rfl, HTT.out⟩
        have HE : Shup (E = scanM (-1) l) := by show _ = _; rw [hE2.out, hH, if_neg (by simp), if_neg h64]
        have h64' : ¬ (64 : Int) < (n : Int) := by omega
        clear hE2 hH
        go_wp2_with fail
        go_loopw [3, 33] (fun p c wr => ∃ (k : Nat) (q : Int), k ≤ n ∧ c = .int .i64 k ∧ p = .int .i64 q ∧ Shup (scanM (-1) l = scanM q (l.drop k) ∧ Turn no w0 wr)) (fun _ c _ => n - (intOf c).toNat)
        case atStart => exact ⟨0, -1, by omega, rfl, rfl, rfl, HX.out⟩
        case round =>
          clear c34
          obtain ⟨k, q, hk, rfl, rfl, HI⟩ := hrel
          obtain ⟨_, _, _, _, TT, hA⟩ := HK.out wr HI.out.2
          by_cases hlt : k < n
          · obtain ⟨m, hm⟩ : ∃ m, l[k]? = some m := ⟨l[k]'(by rw [hn.out]; exact hlt), List.getElem?_eq_getElem _⟩
            obtain ⟨b, off, rfl, hr⟩ := hA.range k m hm
            have hmo := hA.ok m (List.mem_of_getElem? hm)
            have hs1 := size50 hmo
            have hs2 := size50A hmo
            have hs3 := one50 m
            have hs4 := z50 hmo
            clear hmo
            have hm0 : (mkL m).toArray[(0 : Nat)]? = some (.int .i64 m.ix) := rfl
            have hm1 : (mkL m).toArray[(1 : Nat)]? = some (.int .u64 m.tm) := rfl
            have hlt' : (k : Int) < (n : Int) := by omega
            have hk1 : Hid (k + 1 ≤ n) := hlt
            have HST := shup (scanM_at hm q)
            clear hm hA
            generalize mkL m = ms at *
            go_upto_region 11 with (first | (refine wpList_load_mid rfl 108 (.tmp 35) rfl b (off + k * 18) rfl ms _ hr Tryd.underlying108 rfl hs1 ?_) | (refine wpList_store_any rfl 108 (.tmp 5) (.tmp 36) rfl wr.heap.size ms.toArray rfl rfl 108 Z50 (Row.new wr Z50 108) hs2 hs4 hs3 ?_; intro w2 R1 t1))
            have TA := shup ((HI.out.2.alloc (.cells Z50 108)).trans t1 (S' := fun z => z = wr.heap.size) (fun i hi e => by have := HI.out.2.size; omega))
            have hx0 := R1.cell 0 _ hm0
            have hx1 := R1.cell 1 _ hm1
            have TTA := shup (HK.out _ TA.out).2.2.2.2.1
            have htt := time16 w2 m.tm
            have HI1 := shup HI.out.1
            clear R1 t1 hr hs1 hs2 hs3 hs4 hm0 hm1 HI TT
            by_cases a1 : m.ix < 0
            · have HE2 : Shup (E = 41) := by show _ = _; rw [HE.out, HI1.out, HST.out, if_pos (.inl a1)]
              clear HE HI1 HST
              go_wp2_with fail
              go_ret
              exact ⟨by rw [HE2.out]; rfl, TTA.out⟩
            have a1' : ¬ m.ix < 0 := a1
            by_cases a2 : 64 ≤ m.ix
            · have HE2 : Shup (E = 41) := by show _ = _; rw [HE.out, HI1.out, HST.out, if_pos (.inr (.inl a2))]
              clear HE HI1 HST
              go_wp2_with fail
              go_ret
              exact ⟨by rw [HE2.out]; rfl, TTA.out⟩
            have a2' : ¬ 64 ≤ m.ix := a2
            cases a3 : tB m.tm with
            | false =>
              have HE2 : Shup (E = 41) := by show _ = _; rw [HE.out, HI1.out, HST.out, if_pos (.inr (.inr a3))]
              rw [a3] at htt
              clear HE HI1 HST a3
              go_wp2_with (go_at_call 61; refine htt.mono ?_; rintro e w3 ⟨rfl, rfl⟩)
              go_ret
              exact ⟨by rw [HE2.out]; rfl, TTA.out⟩
            | true =>
              have HS2 : Shup (scanM q (l.drop k) = if m.ix ≤ q then 42 else scanM m.ix (l.drop (k + 1))) := by
                show _ = _
                rw [HST.out, if_neg]
                rintro (z | z | z)
                · exact a1 z
                · exact a2 z
                · rw [a3] at z; cases z
              rw [a3] at htt
              clear a3 HST
              by_cases a4 : m.ix ≤ q
              · have HE2 : Shup (E = 42) := by show _ = _; rw [HE.out, HI1.out, HS2.out, if_pos a4]
                clear HE HI1 HS2
                go_wp2_with (go_at_call 61; refine htt.mono ?_; rintro e w3 ⟨rfl, rfl⟩)
                go_ret
                exact ⟨by rw [HE2.out]; rfl, TTA.out⟩
              · have HN : Shup (scanM (-1) l = scanM m.ix (l.drop (k + 1))) := by show _ = _; rw [HI1.out, HS2.out, if_neg a4]
                clear HE HI1 HS2
                go_wp2_with (go_at_call 61; refine htt.mono ?_; rintro e w3 ⟨rfl, rfl⟩)
                go_roundw
                case rel => exact ⟨k + 1, m.ix, hk1.out, by go_num, rfl, HN.out, TA.out⟩
                case measure => have := hk1.out; simp [intOf]; omega
          · have hkn : n = k := by omega
            subst hkn
            have hlt' : ¬ (n : Int) < (n : Int) := by omega
            have HE2 : Shup (E = 0) := by
              show _ = _
              rw [HE.out, HI.out.1, List.drop_of_length_le (by rw [hn.out]; exact Nat.le_refl _)]
              rfl
            have HTF := shup TT
            clear HE HI hA TT
            go_wp2_with fail
            go_ret
            exact ⟨by rw [HE2.out]; rfl, HTF.out⟩
end Go.Proofs.YtgimecdmleofeaaDoor

