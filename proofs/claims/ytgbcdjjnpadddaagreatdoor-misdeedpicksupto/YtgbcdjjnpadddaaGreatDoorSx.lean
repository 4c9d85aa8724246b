/- Texts in one. -/
import Derived.Test.YtgbcdjjnpadddaaGreatDoorNC
import Derived.Test.YtgbcdjjnpadddaaGreatDoorMVb
import Derived.BigQuiet
import Derived.Laws.ResultCell
import Derived.Deep.CutRange
/- The lists of a state that Verify looks at: the councils that decided, and who is punished. -/
namespace Go.Proofs.YtgbcdjjnpadddaaGreatDoor
open Go.RowKit
set_option linter.unusedVariables false

/-- An entry of the past: height, time, the council's list. -/
structure Pa where
  h : Nat
  t : Nat
  v : Value
  l : List Mb
structure PasAt (w : World) (a : Option Addr) (cap : Nat) (L : List Pa) : Prop where
  le : L.length ≤ cap
  cap : cap ≤ maxLen
  cells : ∀ (j : Nat) m, L[j]? = some m → Ms w m.v m.l ∧ ∃ b off, a = some ⟨b, off, none⟩ ∧ w.cell? ⟨b, off + j * 3, none⟩ = some (.int .u64 m.h) ∧ w.cell? ⟨b, off + j * 3 + 1, none⟩ = some (.int .u64 m.t) ∧ w.cell? ⟨b, off + j * 3 + 2, none⟩ = some m.v
def Pas (w : World) (v : Value) (L : List Pa) : Prop := ∃ a cap, v = .slice a L.length cap ∧ PasAt w a cap L
theorem PasAt.turn_no {w w' : World} {a : Option Addr} {cap : Nat} {L : List Pa} (h : PasAt w a cap L) (t : Turn no w w') : PasAt w' a cap L :=
  ⟨h.le, h.cap, fun j m hj => by
    obtain ⟨hm, b, off, e, c0, c1, c2⟩ := h.cells j m hj
    exact ⟨hm.turn_no t, b, off, e, t.keep c0 (fun q => q), t.keep c1 (fun q => q), t.keep c2 (fun q => q)⟩⟩
theorem Pas.turn_no {w w' : World} {v : Value} {L : List Pa} (h : Pas w v L) (t : Turn no w w') : Pas w' v L := by
  obtain ⟨a, cap, e, h⟩ := h
  exact ⟨a, cap, e, h.turn_no t⟩
/-- The first place of a height, or -1. -/
def idxP : List Pa → Nat → Int
  | [], _ => -1
  | m :: r, a => if m.h = a then 0 else if idxP r a < 0 then -1 else idxP r a + 1
theorem idxP_miss (l : List Pa) (a : Nat) (h : ∀ (j : Nat) (m : Pa), l[j]? = some m → m.h ≠ a) : idxP l a = -1 := by
  induction l with
  | nil => rfl
  | cons m r ih =>
    rw [idxP, if_neg (h 0 m rfl), ih (fun j x hx => h (j + 1) x (by simpa using hx))]
    rfl
theorem idxP_hit (l : List Pa) (a k : Nat) (m : Pa) (h : ∀ (j : Nat) (x : Pa), j < k → l[j]? = some x → x.h ≠ a) (hm : l[k]? = some m) (ha : m.h = a) : idxP l a = k := by
  induction l generalizing k with
  | nil => simp at hm
  | cons x r ih =>
    cases k with
    | zero =>
      simp at hm
      subst hm
      rw [idxP, if_pos ha]
      rfl
    | succ k =>
      rw [idxP, if_neg (h 0 x (by omega) rfl), ih k (fun j y hj hy => h (j + 1) y (by omega) (by simpa using hy)) (by simpa using hm), if_neg (by omega)]
      omega
theorem idxP_at (l : List Pa) (a : Nat) : idxP l a = -1 ∨ ∃ (k : Nat) (m : Pa), idxP l a = k ∧ l[k]? = some m ∧ m.h = a := by
  induction l with
  | nil => exact .inl rfl
  | cons x r ih =>
    by_cases q : x.h = a
    · exact .inr ⟨0, x, by rw [idxP, if_pos q]; rfl, rfl, q⟩
    · rcases ih with e | ⟨k, m, e, h1, h2⟩
      · exact .inl (by rw [idxP, if_neg q, e]; rfl)
      · exact .inr ⟨k + 1, m, by rw [idxP, if_neg q, e, if_neg (by omega)]; omega, by simpa using h1, h2⟩
theorem more_lt {P : Nat → Pa → Prop} {l : List Pa} {k : Nat} {m : Pa} (h : ∀ j x, j < k → l[j]? = some x → P j x) (hm : l[k]? = some m) (hp : P k m) : ∀ j x, j < k + 1 → l[j]? = some x → P j x := fun j x hj hx => by
  by_cases e : j = k
  · subst e
    rw [hm] at hx
    cases hx
    exact hp
  · exact h j x (by omega) hx

set_option maxRecDepth 100000 in
set_option maxHeartbeats 1000000 in
theorem clos50 (w : World) (m : Pa) (p : Addr) (a : Nat) (hp : w.cell? p = some (.int .u64 a)) : Calls Tryz.prog 63 #[.agg #[.int .u64 m.h, .int .u64 m.t, m.v], .pointer (some p)] w fun e w' => ∃ bb : Bool, e = .returned (.bool bb) ∧ (bb = true ↔ m.h = a) ∧ Turn no w w' := by
  have T0 : Turn no w (w.alloc (.cells #[.int .u64 m.h, .int .u64 m.t, m.v] 158)) := (Turn.refl no w).alloc _
  have hp1 := T0.keep hp (fun q => q)
  go_enter Tryz.func63, Tryz.ntmps63
  go_wp2_with fail
  go_ret
  exact ⟨_, rfl, by simp; omega, T0⟩
set_option maxRecDepth 100000 in
set_option maxHeartbeats 2000000 in
theorem index49 (w : World) (v : Value) (l : List Pa) (h : Pas w v l) (p : Addr) (a : Nat) (hp : w.cell? p = some (.int .u64 a)) : Calls Tryz.prog 62 #[v, .func (.func 63) #[] #[.pointer (some p)]] w fun e w' => e = .returned (.int .i64 (idxP l a)) ∧ Turn no w w' := by
  obtain ⟨ad, cap, rfl, h⟩ := h
  have hcells := h.cells
  have hle : l.length ≤ 9223372036854775807 := by have := h.le; have := h.cap; simp only [maxLen] at this; omega
  clear h
  obtain ⟨n, hn⟩ : ∃ n, Hid (l.length = n) := ⟨_, rfl⟩
  have hn' : l.length = n := hn.out
  rw [hn'] at hle ⊢
  clear hn'
  go_enter Tryz.func62, Tryz.ntmps62
  go_wp2_with fail
  go_loopw [8] (fun c wr => ∃ k : Nat, k ≤ n ∧ c = .int .i64 k ∧ (∀ (j : Nat) (m : Pa), j < k → l[j]? = some m → m.h ≠ a) ∧ Turn no w wr) (fun c _ => n - (intOf c).toNat)
  case atStart => exact ⟨0, by omega, rfl, fun j m q => by omega, Turn.refl _ _⟩
  case round =>
    obtain ⟨k, hk, rfl, hall, T⟩ := hrel
    by_cases hlt : k < n
    · obtain ⟨m, hm⟩ : ∃ m, l[k]? = some m := ⟨l[k]'(by rw [hn.out]; exact hlt), List.getElem?_eq_getElem _⟩
      obtain ⟨hms, b, off, rfl, c0, c1, c2⟩ := hcells k m hm
      obtain ⟨ma, mc, emv, -⟩ := hms
      have c0 := T.keep c0 (fun q => q)
      have c1 := T.keep c1 (fun q => q)
      have c2 := T.keep c2 (fun q => q)
      have hlt' : (k : Int) < (n : Int) := by omega
      have hcl := clos50 wr m p a (T.keep hp (fun q => q))
      have HH := idxP_hit l a k m hall hm
      have HS := more_lt (P := fun _ x => x.h ≠ a) hall hm
      rw [emv] at c2 hcl
      clear hcells hm hall emv
      go_wp2_with fail
      refine hcl.mono ?_
      rintro e w1 ⟨bb, rfl, hbb, T1⟩
      have T2 := T.then_no T1
      clear hcl
      by_cases a1 : m.h = a
      · obtain rfl := hbb.2 a1
        have HW : Hid (idxP l a = k) := HH a1
        clear HH HS hbb a1
        go_wp2_with fail
        go_ret
        exact ⟨ret_i HW.out.symm, T2⟩
      · have hb : bb = false := by
          cases bb with
          | false => rfl
          | true => exact absurd (hbb.1 rfl) a1
        subst hb
        have hs := HS a1
        clear HH HS hbb
        go_wp2_with fail
        go_roundw
        case rel => exact ⟨k + 1, by omega, by go_num, hs, T2⟩
        case measure => simp [intOf]; omega
    · have hkn : k = n := by omega
      subst hkn
      have hlt' : ¬ (k : Int) < (k : Int) := by omega
      have HW : Hid (idxP l a = -1) := idxP_miss l a (fun j m hj => hall j m (by have := (List.getElem?_eq_some_iff.1 hj).1; have := hn.out; omega) hj)
      clear hall
      go_wp2_with fail
      go_ret
      exact ⟨ret_i HW.out.symm, T⟩

/-- Offences, wherever they lie. -/
structure OfsAt (w : World) (a : Option Addr) (cap : Nat) (L : List (Nat × Nat)) : Prop where
  le : L.length ≤ cap
  cap : cap ≤ maxLen
  cells : ∀ (j : Nat) m, L[j]? = some m → ∃ b off, a = some ⟨b, off, none⟩ ∧ w.cell? ⟨b, off + j * 2, none⟩ = some (.int .u64 m.1) ∧ w.cell? ⟨b, off + j * 2 + 1, none⟩ = some (.int .u64 m.2)
def Ofs (w : World) (v : Value) (L : List (Nat × Nat)) : Prop := ∃ a cap, v = .slice a L.length cap ∧ OfsAt w a cap L
theorem Ofs.turn_no {w w' : World} {v : Value} {L : List (Nat × Nat)} (h : Ofs w v L) (t : Turn no w w') : Ofs w' v L := by
  obtain ⟨a, cap, e, h⟩ := h
  exact ⟨a, cap, e, h.le, h.cap, fun j m hj => by
    obtain ⟨b, off, e, c0, c1⟩ := h.cells j m hj
    exact ⟨b, off, e, t.keep c0 (fun q => q), t.keep c1 (fun q => q)⟩⟩
/-- Does the pair stand there? -/
def hasO (L : List (Nat × Nat)) (h a : Nat) : Bool := L.any fun m => decide (m.1 = h ∧ m.2 = a)
theorem hasO_hit {L : List (Nat × Nat)} {h a k : Nat} {m : Nat × Nat} (hm : L[k]? = some m) (e : m.1 = h ∧ m.2 = a) : hasO L h a = true := List.any_eq_true.2 ⟨m, List.mem_of_getElem? hm, by simpa using e⟩
theorem hasO_miss {L : List (Nat × Nat)} {h a : Nat} (q : ∀ (j : Nat) m, L[j]? = some m → ¬ (m.1 = h ∧ m.2 = a)) : hasO L h a = false := by
  rw [Bool.eq_false_iff]
  intro z
  obtain ⟨x, hx, hq⟩ := List.any_eq_true.1 z
  obtain ⟨j, hj⟩ := List.getElem?_of_mem hx
  exact q j x hj (by simpa using hq)
end Go.Proofs.YtgbcdjjnpadddaaGreatDoor


/- What Verify looks at of a state. -/
namespace Go.Proofs.YtgbcdjjnpadddaaGreatDoor
open Go.RowKit
set_option linter.unusedVariables false

/-- A state's cells, as far as Verify looks at them. -/
structure StC (SA : Array Value) (c : ByteArray) (age hh : Nat) (pv ov : Value) : Prop where
  size : (Tryz.prog.info? 37).map (·.size) = some SA.size
  ch : SA[0]? = some (.string c)
  ag : SA[5]? = some (.int .u64 age)
  he : SA[13]? = some (.int .u64 hh)
  pa : SA[49]? = some pv
  pu : SA[50]? = some ov
/-- Who decided a height, as councilOf tells. -/
def CoP (P : List Pa) (age hh x : Nat) (vv : Value) (l : List Mb) (bb : Bool) : Prop :=
  (bb = true ∧ (x ≤ hh ∧ hh - x < age) ∧ ∃ (k : Nat) (m : Pa), idxP P x = k ∧ P[k]? = some m ∧ vv = m.v ∧ l = m.l) ∨ (bb = false ∧ vv = .slice none 0 0 ∧ l = [] ∧ (¬ (x ≤ hh ∧ hh - x < age) ∨ idxP P x = -1))
/-- What councilOf returns. -/
def CoRet (P : List Pa) (age hh x : Nat) (w : World) (e : Ending) (w' : World) : Prop := ∃ (vv : Value) (l : List Mb) (bb : Bool), e = .returned (.tuple #[.agg #[vv], .bool bb]) ∧ CoP P age hh x vv l bb ∧ Ms w' vv l ∧ Turn no w w'
theorem CoRet.of {P : List Pa} {age hh x : Nat} {w w' : World} {e : Ending} (vv : Value) (l : List Mb) (bb : Bool) (h1 : e = .returned (.tuple #[.agg #[vv], .bool bb])) (h2 : CoP P age hh x vv l bb) (h3 : Ms w' vv l) (h4 : Turn no w w') : CoRet P age hh x w e w' := ⟨vv, l, bb, h1, h2, h3, h4⟩
theorem ms_nil (w : World) : Ms w (.slice none 0 0) [] := ⟨none, 0, rfl, ⟨by simp, by simp [maxLen], (fun m hm => by cases hm), fun j m hj => by simp at hj⟩⟩
theorem bld29 (w : World) : (Instr.build 29 #[]).run Tryz.prog w = .ok (.agg #[.slice none 0 0]) w := by kernel_rfl
theorem Pas.get {w : World} {v : Value} {L : List Pa} (h : Pas w v L) {k : Nat} {m : Pa} (hm : L[k]? = some m) : ∃ b off c, v = .slice (some ⟨b, off, none⟩) L.length c ∧ L.length ≤ 9223372036854775807 ∧ w.cell? ⟨b, off + k * 3 + 2, none⟩ = some m.v ∧ Ms w m.v m.l := by
  obtain ⟨a, c, rfl, h⟩ := h
  obtain ⟨h1, b, off, rfl, c0, c1, c2⟩ := h.cells k m hm
  exact ⟨b, off, c, rfl, by have := h.le; have := h.cap; simp only [maxLen] at this; omega, c2, h1⟩
set_option maxRecDepth 100000 in
set_option maxHeartbeats 4000000 in
theorem council22 (w : World) (SA : Array Value) (c : ByteArray) (age hh x : Nat) (pv ov : Value) (hS : StC SA c age hh pv ov) (hh64 : hh < 18446744073709551616) (P : List Pa) (hP : Pas w pv P) :
    Calls Tryz.prog 35 #[.agg SA, .int .u64 x] w (CoRet P age hh x w) := by
  obtain ⟨w0, hw0⟩ : ∃ w0, ((w.alloc (.cells SA 37)).alloc (.cells #[.int .u64 x] 22)).alloc (.cells #[.slice none 0 0] 29) = w0 := ⟨_, rfl⟩
  have T0 : Turn no w w0 := by rw [← hw0]; exact (((Turn.refl no w).alloc _).alloc _).alloc _
  have R0 : Row w0 w.heap.size SA 37 := by rw [← hw0]; exact ((Row.new w SA 37).alloc _).alloc _
  have R1 : Row w0 (w.heap.size + 1) #[.int .u64 x] 22 := by rw [← hw0]; exact (Row.newAt _ _ _ _ (by simp)).alloc _
  have R2 : Row w0 (w.heap.size + 2) #[.slice none 0 0] 29 := by rw [← hw0]; exact Row.newAt _ _ _ _ (by simp)
  have c0 := R1.cell 0 _ rfl
  have cA := R0.cell 5 _ hS.ag
  have cH := R0.cell 13 _ hS.he
  have cP := R0.cell 49 _ hS.pa
  have z2 := R2.cell 0 _ rfl
  have f2 := R2.frozen 0
  have hi := index49 w0 pv P (hP.turn_no T0) ⟨w.heap.size + 1, 0, none⟩ x c0
  have hmf : ∀ (fn : Fn) (first cap : Array Value) (w : World), (Instr.makeFunc fn first cap).run Tryz.prog w = .ok (.func fn first cap) w := fun _ _ _ _ => rfl
  have hb29 := bld29
  obtain ⟨pa, pc, epv, -⟩ := id hP
  subst epv
  have HT0 := shut T0
  have HP := shut (hP.turn_no T0)
  have HP0 := shut hP
  have HR2 := shut R2
  have HcP := shut cP
  clear hS hP R0 R1 T0
  go_enter Tryz.func35, Tryz.ntmps35
  go_upto_region 1 with fail
  try rw [hw0]
  clear hw0
  by_cases hx : hh < x
  · have hx' : (hh : Int) < (x : Int) := by omega
    have hX : Hid (¬ (x ≤ hh ∧ hh - x < age)) := by show ¬ _; omega
    have RF := HR2.out.set 0 (.slice none 0 0)
    have TF : Turn no w (w0.setCell ⟨w.heap.size + 2, 0, none⟩ (.slice none 0 0)) := HT0.out.setCell (p := ⟨w.heap.size + 2, 0, none⟩) (fun q => by have q' : w.heap.size + 2 < w.heap.size := q; omega) _
    clear hi HP HP0 cA cP HcP hx
    go_wp2_with fail
    exact ⟨rfl, _, results_cell_row_tmpQ (g := w.heap.size + 2) (cs := #[.slice none 0 0]) (t := 29) rfl _ _ _ _ rfl RF Tryz.underlying29 rfl (by kernel_rfl), CoRet.of (.slice none 0 0) [] false rfl (Or.inr ⟨rfl, rfl, rfl, Or.inl hX.out⟩) (ms_nil _) TF⟩
  · have hx' : ¬ (hh : Int) < (x : Int) := by omega
    have hsub : IntKind.u64.wrap ((hh : Int) - (x : Int)) = ((hh - x : Nat) : Int) := by rw [IntKind.wrap_u64]; omega
    by_cases ha : age ≤ hh - x
    · have ha' : (age : Int) ≤ ((hh - x : Nat) : Int) := by omega
      have hX : Hid (¬ (x ≤ hh ∧ hh - x < age)) := by show ¬ _; omega
      have RF := HR2.out.set 0 (.slice none 0 0)
      have TF : Turn no w (w0.setCell ⟨w.heap.size + 2, 0, none⟩ (.slice none 0 0)) := HT0.out.setCell (p := ⟨w.heap.size + 2, 0, none⟩) (fun q => by have q' : w.heap.size + 2 < w.heap.size := q; omega) _
      clear hi HP HP0 cP HcP hx ha
      go_wp2_with fail
      exact ⟨rfl, _, results_cell_row_tmpQ (g := w.heap.size + 2) (cs := #[.slice none 0 0]) (t := 29) rfl _ _ _ _ rfl RF Tryz.underlying29 rfl (by kernel_rfl), CoRet.of (.slice none 0 0) [] false rfl (Or.inr ⟨rfl, rfl, rfl, Or.inl hX.out⟩) (ms_nil _) TF⟩
    · have ha' : ¬ (age : Int) ≤ ((hh - x : Nat) : Int) := by omega
      have hX : Hid (x ≤ hh ∧ hh - x < age) := by show _ ∧ _; omega
      clear hx ha
      go_upto_region 4 with fail
      refine hi.mono ?_
      rintro e w1 ⟨rfl, t1⟩
      clear hi
      have z2 := t1.keep z2 (fun q => q)
      have R3 := HR2.out.turn t1 (fun q => q)
      have f2 := R3.frozen 0
      have cP := t1.keep HcP.out (fun q => q)
      rcases idxP_at P x with e | ⟨k, m, e, hm, _⟩
      · have HE := shut e
        have RF := R3.set 0 (.slice none 0 0)
        have TF : Turn no w (w1.setCell ⟨w.heap.size + 2, 0, none⟩ (.slice none 0 0)) := (HT0.out.then_no t1).setCell (p := ⟨w.heap.size + 2, 0, none⟩) (fun q => by have q' : w.heap.size + 2 < w.heap.size := q; omega) _
        rw [e]
        clear e R3 t1
        go_wp2_with fail
        exact ⟨rfl, _, results_cell_row_tmpQ (g := w.heap.size + 2) (cs := #[.slice none 0 0]) (t := 29) rfl _ _ _ _ rfl RF Tryz.underlying29 rfl (by kernel_rfl), CoRet.of (.slice none 0 0) [] false rfl (Or.inr ⟨rfl, rfl, rfl, Or.inr HE.out⟩) (ms_nil _) TF⟩
      · obtain ⟨b, off, c3, e3, hl, c2, hms⟩ := (HP.out.turn_no t1).get hm
        cases e3
        have hkn : k < P.length := (List.getElem?_eq_some_iff.1 hm).1
        have HE := shut e
        have RF := R3.set 0 m.v
        have TF : Turn no w (w1.setCell ⟨w.heap.size + 2, 0, none⟩ m.v) := (HT0.out.then_no t1).setCell (p := ⟨w.heap.size + 2, 0, none⟩) (fun q => by have q' : w.heap.size + 2 < w.heap.size := q; omega) _
        have hMS : Ms (w1.setCell ⟨w.heap.size + 2, 0, none⟩ m.v) m.v m.l := by
          obtain ⟨_, _, _, _, _, _, h0⟩ := HP0.out.get hm
          exact h0.turn_no TF
        have HM := shut hm
        rw [e]
        obtain ⟨ma, mc, emv, -⟩ := id hms
        rw [emv] at c2
        clear e R3 t1 hms
        obtain ⟨n, hn⟩ : ∃ n, Hid (P.length = n) := ⟨_, rfl⟩
        rw [show P.length = n from hn.out] at hkn hl cP
        rw [emv] at RF TF hMS
        have hk0 : ¬ (k : Int) < 0 := by omega
        have hkn' : (k : Int) < (n : Int) := by omega
        go_wp2_with fail
        exact ⟨rfl, _, results_cell_row_tmpQ (g := w.heap.size + 2) (cs := #[.slice ma m.l.length mc]) (t := 29) rfl _ _ _ _ rfl RF Tryz.underlying29 rfl (by kernel_rfl), CoRet.of (.slice ma m.l.length mc) m.l true rfl (Or.inl ⟨rfl, hX.out, k, m, HE.out, HM.out, emv.symm, rfl⟩) hMS TF⟩


set_option maxRecDepth 100000 in
set_option maxHeartbeats 4000000 in
theorem index53 (w : World) (v : Value) (L : List (Nat × Nat)) (h : Ofs w v L) (x a : Nat) : Calls Tryz.prog 66 #[v, .agg #[.int .u64 x, .int .u64 a]] w fun e w' => ∃ r : Int, e = .returned (.int .i64 r) ∧ decide (0 ≤ r) = hasO L x a ∧ Turn no w w' := by
  obtain ⟨w0, hw0⟩ : ∃ w0, w.alloc (.cells #[.int .u64 x, .int .u64 a] 101) = w0 := ⟨_, rfl⟩
  have T0 : Turn no w w0 := by rw [← hw0]; exact (Turn.refl no w).alloc _
  have R0 : Row w0 w.heap.size #[.int .u64 x, .int .u64 a] 101 := by rw [← hw0]; exact Row.new w _ 101
  have h2 := h.turn_no T0
  clear h
  obtain ⟨ad, cap, rfl, h⟩ := h2
  have hcells := h.cells
  have hle : L.length ≤ 9223372036854775807 := by have := h.le; have := h.cap; simp only [maxLen] at this; omega
  clear h
  obtain ⟨n, hn⟩ : ∃ n, Hid (L.length = n) := ⟨_, rfl⟩
  rw [show L.length = n from hn.out] at hle ⊢
  have HC := shut hcells
  have HR := shut R0
  have HT0 := shut T0
  clear hcells R0 T0
  go_enter Tryz.func66, Tryz.ntmps66
  go_upto_region 1 with fail
  try rw [hw0]
  clear hw0
  go_wp2_with fail
  go_loopw [8, 5] (fun c c5 wr => ∃ k : Nat, k ≤ n ∧ c = .int .i64 k ∧ Shut ((∀ (j : Nat) m, j < k → L[j]? = some m → ¬ (m.1 = x ∧ m.2 = a)) ∧ Turn no w0 wr)) (fun c _ _ => n - (intOf c).toNat)
  case atStart => exact ⟨0, by omega, rfl, shut ⟨fun j m q => by omega, Turn.refl _ _⟩⟩
  case round =>
    obtain ⟨k, hk, rfl, hI⟩ := hrel
    by_cases hlt : k < n
    · obtain ⟨m, hm⟩ : ∃ m, L[k]? = some m := ⟨L[k]'(by rw [hn.out]; exact hlt), List.getElem?_eq_getElem _⟩
      obtain ⟨b, off, rfl, c0, c1⟩ := HC.out k m hm
      obtain ⟨hN, T⟩ := hI.out
      have c0 := T.keep c0 (fun q => q)
      have c1 := T.keep c1 (fun q => q)
      have d0 := T.keep (HR.out.cell 0 _ rfl) (fun q => q)
      have d1 := T.keep (HR.out.cell 1 _ rfl) (fun q => q)
      have hlt' : (k : Int) < (n : Int) := by omega
      have HM := shut hm
      have HNN := shut hN
      have HTT := shut T
      clear hm hN T hI
      by_cases hq : m.1 = x ∧ m.2 = a
      · have HB : Hid (hasO L x a = true) := hasO_hit HM.out hq
        have hq1 : ((x : Int) == (m.1 : Int)) = true := by simp; omega
        have hq2 : ((a : Int) == (m.2 : Int)) = true := by simp; omega
        clear hq
        go_upto_region 4 with fail
        refine wp_region_held_drew (S := fun W => Turn no wr W) (by kernel_rfl) (Turn.refl _ wr).drew (fun hHeld => ?_)
        refine' wpAnyH_take (i := 0) (v := .agg #[.int .u64 x, .int .u64 a]) rfl (by kernel_rfl) (by kernel_rfl) (by kernel_rfl) (fun _ _ _ h => h) (Or.inl ⟨by kernel_rfl, fun W hW => ?y0⟩) hHeld ?r0
        · have d0 := hW.keep d0 (fun q => q)
          have d1 := hW.keep d1 (fun q => q)
          go_simp
        refine' wpAnyH_take (i := 1) (v := .slice (some ⟨b, off, none⟩) n cap) rfl (by kernel_rfl) (by kernel_rfl) (by kernel_rfl) (fun _ _ _ h => h) (Or.inl ⟨by kernel_rfl, fun W hW => ?y1⟩) hHeld ?r1
        · go_simp
        refine' wpAnyH_take (i := 2) (v := .int .i64 k) rfl (by kernel_rfl) (by kernel_rfl) (by kernel_rfl) (fun _ _ _ h => h) (Or.inl ⟨by kernel_rfl, fun W hW => ?y2⟩) hHeld ?r2
        · go_simp
        refine' wpAnyH_take (i := 3) (v := .pointer (some ⟨b, off + k * 2, none⟩)) rfl (by kernel_rfl) (by kernel_rfl) (by kernel_rfl) (fun _ _ _ h => h) (Or.inl ⟨by kernel_rfl, fun W hW => ?y3⟩) hHeld ?r3
        · go_simp
        refine' wpAnyH_take (i := 4) (v := .agg #[.int .u64 m.1, .int .u64 m.2]) rfl (by kernel_rfl) (by kernel_rfl) (by kernel_rfl) (fun _ _ _ h => h) (Or.inl ⟨by kernel_rfl, fun W hW => ?y4⟩) hHeld ?r4
        · have c0 := hW.keep c0 (fun q => q)
          have c1 := hW.keep c1 (fun q => q)
          go_simp
        refine' wpAnyH_take (i := 5) (v := .bool true) rfl (by kernel_rfl) (by kernel_rfl) (by kernel_rfl) (fun _ _ _ h => h) (Or.inl ⟨by kernel_rfl, fun W hW => ?y5⟩) hHeld ?r5
        · go_simp
        refine wpAnyH_done (by kernel_rfl) ?_ _
        go_wp2_with fail
        go_ret
        exact ⟨_, rfl, by rw [HB.out]; simp, HT0.out.then_no (HTT.out.then_no ((Turn.refl no wr).drew))⟩
      · have hN2 := HNN.out
        have hq3 : ((x : Int) == (m.1 : Int) && (a : Int) == (m.2 : Int)) = false := by simp; omega
        have HQ := shut hq
        clear hq hN2
        go_upto_region 4 with fail
        refine wp_region_held_drew (S := fun W => Turn no wr W) (by kernel_rfl) (Turn.refl _ wr).drew (fun hHeld => ?_)
        refine' wpAnyH_take (i := 0) (v := .agg #[.int .u64 x, .int .u64 a]) rfl (by kernel_rfl) (by kernel_rfl) (by kernel_rfl) (fun _ _ _ h => h) (Or.inl ⟨by kernel_rfl, fun W hW => ?y20⟩) hHeld ?r20
        · have d0 := hW.keep d0 (fun q => q)
          have d1 := hW.keep d1 (fun q => q)
          go_simp
        refine' wpAnyH_take (i := 1) (v := .slice (some ⟨b, off, none⟩) n cap) rfl (by kernel_rfl) (by kernel_rfl) (by kernel_rfl) (fun _ _ _ h => h) (Or.inl ⟨by kernel_rfl, fun W hW => ?y21⟩) hHeld ?r21
        · go_simp
        refine' wpAnyH_take (i := 2) (v := .int .i64 k) rfl (by kernel_rfl) (by kernel_rfl) (by kernel_rfl) (fun _ _ _ h => h) (Or.inl ⟨by kernel_rfl, fun W hW => ?y22⟩) hHeld ?r22
        · go_simp
        refine' wpAnyH_take (i := 3) (v := .pointer (some ⟨b, off + k * 2, none⟩)) rfl (by kernel_rfl) (by kernel_rfl) (by kernel_rfl) (fun _ _ _ h => h) (Or.inl ⟨by kernel_rfl, fun W hW => ?y23⟩) hHeld ?r23
        · go_simp
        refine' wpAnyH_take (i := 4) (v := .agg #[.int .u64 m.1, .int .u64 m.2]) rfl (by kernel_rfl) (by kernel_rfl) (by kernel_rfl) (fun _ _ _ h => h) (Or.inl ⟨by kernel_rfl, fun W hW => ?y24⟩) hHeld ?r24
        · have c0 := hW.keep c0 (fun q => q)
          have c1 := hW.keep c1 (fun q => q)
          go_simp
        refine' wpAnyH_take (i := 5) (v := .bool false) rfl (by kernel_rfl) (by kernel_rfl) (by kernel_rfl) (fun _ _ _ h => h) (Or.inl ⟨by kernel_rfl, fun W hW => ?y25⟩) hHeld ?r25
        · go_simp
          intro q1 q2
          exact HQ.out ⟨by omega, by omega⟩
        refine wpAnyH_done (by kernel_rfl) ?_ _
        go_wp2_with fail
        go_roundw
        case rel =>
          refine ⟨k + 1, by omega, by go_num, shut ⟨fun j y hj hy => ?_, HTT.out.then_no ((Turn.refl no wr).drew)⟩⟩
          by_cases e : j = k
          · subst e
            rw [HM.out] at hy
            cases hy
            exact HQ.out
          · exact HNN.out j y (by omega) hy
        case measure => simp [intOf]; omega
    · have hkn : k = n := by omega
      subst hkn
      have hlt' : ¬ (k : Int) < (k : Int) := by omega
      obtain ⟨hN, T⟩ := hI.out
      have HB : Hid (hasO L x a = false) := hasO_miss (fun j m hj => hN j m (by have := (List.getElem?_eq_some_iff.1 hj).1; have := hn.out; omega) hj)
      have HT := shut (HT0.out.then_no T)
      clear hN T hI
      go_wp2_with fail
      go_ret
      exact ⟨_, rfl, by rw [HB.out]; decide, HT.out⟩
set_option maxRecDepth 100000 in
set_option maxHeartbeats 1000000 in
theorem contains24 (w : World) (v : Value) (L : List (Nat × Nat)) (h : Ofs w v L) (x a : Nat) : Calls Tryz.prog 37 #[v, .agg #[.int .u64 x, .int .u64 a]] w fun e w' => e = .returned (.bool (hasO L x a)) ∧ Turn no w w' := by
  have T0 : Turn no w (w.alloc (.cells #[.int .u64 x, .int .u64 a] 101)) := (Turn.refl no w).alloc _
  have hc := index53 _ v L (h.turn_no T0) x a
  obtain ⟨ad, cap, rfl, -⟩ := id h
  clear h
  go_enter Tryz.func37, Tryz.ntmps37
  go_wp2_with fail
  refine hc.mono ?_
  rintro e w1 ⟨r, rfl, hr, T1⟩
  have HB := shut hr
  clear hr hc
  go_wp2_with fail
  go_ret
  exact ⟨by rw [← HB.out]; rfl, T0.then_no T1⟩
end Go.Proofs.YtgbcdjjnpadddaaGreatDoor


/- What the document's Verify looks at of a state. -/
namespace Go.Proofs.YtgbcdjjnpadddaaGreatDoor
open Go.RowKit
set_option linter.unusedVariables false

set_option maxRecDepth 100000 in
set_option maxHeartbeats 4000000 in
theorem past29 (w : World) (SA : Array Value) (c : ByteArray) (age hh x : Nat) (pv ov : Value) (hS : StC SA c age hh pv ov) (P : List Pa) (hP : Pas w pv P) :
    Calls Tryz.prog 42 #[.agg SA, .int .u64 x] w fun e w' => e = .returned (.int .i64 (idxP P x)) ∧ Turn no w w' := by
  obtain ⟨w0, hw0⟩ : ∃ w0, w.alloc (.cells SA 37) = w0 := ⟨_, rfl⟩
  have T0 : Turn no w w0 := by rw [← hw0]; exact (Turn.refl no w).alloc _
  have R0 : Row w0 w.heap.size SA 37 := by rw [← hw0]; exact Row.new w SA 37
  have cP := R0.cell 49 _ hS.pa
  have h2 := hP.turn_no T0
  clear hP hS R0
  obtain ⟨ad, cap, rfl, h⟩ := h2
  have hcells := h.cells
  have hle : P.length ≤ 9223372036854775807 := by have := h.le; have := h.cap; simp only [maxLen] at this; omega
  clear h
  obtain ⟨n, hn⟩ : ∃ n, Hid (P.length = n) := ⟨_, rfl⟩
  rw [show P.length = n from hn.out] at hle cP
  have HT0 := shut T0
  clear T0
  go_enter Tryz.func42, Tryz.ntmps42
  go_upto_region 1 with fail
  try rw [hw0]
  clear hw0
  go_wp2_with fail
  go_loop [5] (fun d => ∃ k : Nat, k ≤ n ∧ d = .int .i64 k ∧ (∀ (j : Nat) (m : Pa), j < k → P[j]? = some m → m.h ≠ x)) (fun d => n - (intOf d).toNat)
  case atStart => exact ⟨0, by omega, rfl, fun j m q => by omega⟩
  case round =>
    obtain ⟨k, hk, rfl, hall⟩ := hrel
    by_cases hlt : k < n
    · obtain ⟨m, hm⟩ : ∃ m, P[k]? = some m := ⟨P[k]'(by rw [hn.out]; exact hlt), List.getElem?_eq_getElem _⟩
      obtain ⟨_, b, off, rfl, c0, c1, c2⟩ := hcells k m hm
      have hlt' : (k : Int) < (n : Int) := by omega
      have HH := idxP_hit P x k m hall hm
      have HS := more_lt (P := fun _ y => y.h ≠ x) hall hm
      clear hcells hm hall c1 c2
      by_cases a1 : m.h = x
      · have HW : Hid (idxP P x = k) := HH a1
        have a1' : ((m.h : Int) == (x : Int)) = true := by simp; omega
        clear HH HS a1
        go_wp2_with fail
        go_ret
        exact ⟨ret_i HW.out.symm, HT0.out⟩
      · have hs := HS a1
        have a1' : ((m.h : Int) == (x : Int)) = false := by simp; omega
        clear HH HS
        go_wp2_with fail
        go_round
        case rel => exact ⟨k + 1, by omega, by go_num, hs⟩
        case measure => simp [intOf]; omega
    · have hkn : k = n := by omega
      subst hkn
      have hlt' : ¬ (k : Int) < (k : Int) := by omega
      have HW : Hid (idxP P x = -1) := idxP_miss P x (fun j m hj => hall j m (by have := (List.getElem?_eq_some_iff.1 hj).1; have := hn.out; omega) hj)
      clear hall
      go_wp2_with fail
      go_ret
      exact ⟨ret_i HW.out.symm, HT0.out⟩
set_option maxRecDepth 100000 in
set_option maxHeartbeats 4000000 in
theorem counted30 (w : World) (SA : Array Value) (c : ByteArray) (age hh x : Nat) (pv ov : Value) (hS : StC SA c age hh pv ov) (hh64 : hh < 18446744073709551616) :
    Calls Tryz.prog 43 #[.agg SA, .int .u64 x] w fun e w' => e = .returned (.bool (decide (1 ≤ x ∧ x ≤ hh ∧ hh - x < age))) ∧ Turn no w w' := by
  obtain ⟨w0, hw0⟩ : ∃ w0, w.alloc (.cells SA 37) = w0 := ⟨_, rfl⟩
  have T0 : Turn no w w0 := by rw [← hw0]; exact (Turn.refl no w).alloc _
  have R0 : Row w0 w.heap.size SA 37 := by rw [← hw0]; exact Row.new w SA 37
  have cA := R0.cell 5 _ hS.ag
  have cH := R0.cell 13 _ hS.he
  have HT0 := shut T0
  clear hS R0 T0
  obtain ⟨D, hD⟩ : ∃ D, Hid (decide (1 ≤ x ∧ x ≤ hh ∧ hh - x < age) = D) := ⟨_, rfl⟩
  rw [show decide (1 ≤ x ∧ x ≤ hh ∧ hh - x < age) = D from hD.out]
  by_cases h1 : x < 1
  · have h1' : (x : Int) < 1 := by omega
    have HB : Hid (D = false) := by show _ = _; rw [← hD.out]; simp; omega
    clear h1
    go_enter Tryz.func43, Tryz.ntmps43
    go_upto_region 1 with fail
    try rw [hw0]
    clear hw0
    go_wp2_with fail
    go_ret
    exact ⟨by rw [HB.out]; rfl, HT0.out⟩
  · have h1' : ¬ (x : Int) < 1 := by omega
    by_cases hx : hh < x
    · have hx' : (hh : Int) < (x : Int) := by omega
      have HB : Hid (D = false) := by show _ = _; rw [← hD.out]; simp; omega
      clear h1 hx
      go_enter Tryz.func43, Tryz.ntmps43
      go_upto_region 1 with fail
      try rw [hw0]
      clear hw0
      go_wp2_with fail
      go_ret
      exact ⟨by rw [HB.out]; rfl, HT0.out⟩
    · have hx' : ¬ (hh : Int) < (x : Int) := by omega
      have hsub : IntKind.u64.wrap ((hh : Int) - (x : Int)) = ((hh - x : Nat) : Int) := by rw [IntKind.wrap_u64]; omega
      have HB : Hid (D = decide (hh - x < age)) := by show _ = _; rw [← hD.out]; apply decide_eq_decide.2; omega
      clear h1 hx
      go_enter Tryz.func43, Tryz.ntmps43
      go_upto_region 1 with fail
      try rw [hw0]
      clear hw0
      go_wp2_with fail
      go_ret
      exact ⟨by rw [HB.out]; rfl, HT0.out⟩
set_option maxRecDepth 100000 in
set_option maxHeartbeats 4000000 in
theorem punished32 (w : World) (SA : Array Value) (c : ByteArray) (age hh x a : Nat) (pv ov : Value) (hS : StC SA c age hh pv ov) (L : List (Nat × Nat)) (hL : Ofs w ov L) :
    Calls Tryz.prog 41 #[.agg SA, .int .u64 x, .int .u64 a] w fun e w' => e = .returned (.bool (hasO L x a)) ∧ Turn no w w' := by
  obtain ⟨w0, hw0⟩ : ∃ w0, w.alloc (.cells SA 37) = w0 := ⟨_, rfl⟩
  have T0 : Turn no w w0 := by rw [← hw0]; exact (Turn.refl no w).alloc _
  have R0 : Row w0 w.heap.size SA 37 := by rw [← hw0]; exact Row.new w SA 37
  have cP := R0.cell 50 _ hS.pu
  have h2 := hL.turn_no T0
  clear hL hS R0
  obtain ⟨ad, cap, rfl, h⟩ := h2
  have hcells := h.cells
  have hle : L.length ≤ 9223372036854775807 := by have := h.le; have := h.cap; simp only [maxLen] at this; omega
  clear h
  obtain ⟨n, hn⟩ : ∃ n, Hid (L.length = n) := ⟨_, rfl⟩
  rw [show L.length = n from hn.out] at hle cP
  have HT0 := shut T0
  clear T0
  go_enter Tryz.func41, Tryz.ntmps41
  go_upto_region 1 with fail
  try rw [hw0]
  clear hw0
  go_wp2_with fail
  go_loop [7] (fun d => ∃ k : Nat, k ≤ n ∧ d = .int .i64 k ∧ (∀ (j : Nat) (m : Nat × Nat), j < k → L[j]? = some m → ¬ (m.1 = x ∧ m.2 = a))) (fun d => n - (intOf d).toNat)
  case atStart => exact ⟨0, by omega, rfl, fun j m q => by omega⟩
  case round =>
    obtain ⟨k, hk, rfl, hall⟩ := hrel
    by_cases hlt : k < n
    · obtain ⟨m, hm⟩ : ∃ m, L[k]? = some m := ⟨L[k]'(by rw [hn.out]; exact hlt), List.getElem?_eq_getElem _⟩
      obtain ⟨b, off, rfl, c0, c1⟩ := hcells k m hm
      have hlt' : (k : Int) < (n : Int) := by omega
      have HM := shut hm
      have HA := shut hall
      have next : ¬ (m.1 = x ∧ m.2 = a) → ∀ (j : Nat) (y : Nat × Nat), j < k + 1 → L[j]? = some y → ¬ (y.1 = x ∧ y.2 = a) := fun q j y hj hy => by
        by_cases e : j = k
        · subst e
          rw [HM.out] at hy
          cases hy
          exact q
        · exact HA.out j y (by omega) hy
      clear hcells hm hall
      by_cases a1 : m.1 = x
      · have a1' : ((m.1 : Int) == (x : Int)) = true := by simp; omega
        by_cases a2 : m.2 = a
        · have HW : Hid (hasO L x a = true) := hasO_hit HM.out ⟨a1, a2⟩
          have a2' : ((m.2 : Int) == (a : Int)) = true := by simp; omega
          clear next a1 a2
          go_wp2_with fail
          go_ret
          exact ⟨by rw [HW.out]; rfl, HT0.out⟩
        · have hs := shut (next (fun q => a2 q.2))
          have a2' : ((m.2 : Int) == (a : Int)) = false := by simp; omega
          clear next
          go_wp2_with fail
          go_round
          case rel => exact ⟨k + 1, by omega, by go_num, hs.out⟩
          case measure => simp [intOf]; omega
      · have hs := shut (next (fun q => a1 q.1))
        have a1' : ((m.1 : Int) == (x : Int)) = false := by simp; omega
        clear next
        go_wp2_with fail
        go_round
        case rel => exact ⟨k + 1, by omega, by go_num, hs.out⟩
        case measure => simp [intOf]; omega
    · have hkn : k = n := by omega
      subst hkn
      have hlt' : ¬ (k : Int) < (k : Int) := by omega
      have HW : Hid (hasO L x a = false) := hasO_miss (fun j m hj => hall j m (by have := (List.getElem?_eq_some_iff.1 hj).1; have := hn.out; omega) hj)
      clear hall
      go_wp2_with fail
      go_ret
      exact ⟨by rw [HW.out]; rfl, HT0.out⟩
end Go.Proofs.YtgbcdjjnpadddaaGreatDoor

