/- Texts in one. -/
import Derived.Test.YtnlcngcilojnkabDoorPc
import Derived.Test.YtnlcngcilojnkabDoorP10
import Derived.Test.YtnlcngcilojnkabDoorLaid
import Derived.ChangeOld
import Derived.SizedLaws
import Derived.Lib.SmallJoins
import Derived.Deep.Slices
import Derived.Deep.Strs
import Derived.Deep.DeepHandedRow
import Derived.JoinedCond
/- A script; play. -/
namespace Go.Proofs.YtnlcngcilojnkabDoor
open Go.RowKit Go.Maps Go.MuLone
set_option linter.unusedVariables false

def Script (w : World) (v : Value) (l : List Opx) : Prop :=
  (v = .slice none 0 0 ∧ l = []) ∨ ∃ a cap, v = .slice (some a) l.length cap ∧ l.length ≤ cap ∧ cap ≤ maxLen ∧
    ∀ j x, l[j]? = some x → ∃ b off, a = ⟨b, off, none⟩ ∧ w.rangeAt b (off + j * 23) (opC x) ∧ Bs w x.va x.bs ∧ x.ok
theorem Script.slice {w : World} {v : Value} {l : List Opx} (h : Script w v l) : ∃ a cap, v = .slice a l.length cap ∧ (∀ j x, l[j]? = some x → ∃ b off, a = some ⟨b, off, none⟩ ∧ w.rangeAt b (off + j * 23) (opC x) ∧ Bs w x.va x.bs ∧ x.ok) ∧ l.length ≤ cap ∧ l.length ≤ 9223372036854775807 := by
  rcases h with ⟨rfl, rfl⟩ | ⟨a, cap, rfl, h1, h2, h3⟩
  · exact ⟨none, 0, rfl, fun j x hx => by simp at hx, by simp, by simp⟩
  · refine ⟨some a, cap, rfl, fun j x hx => ?_, h1, by simp [maxLen] at h2; omega⟩
    obtain ⟨b, off, rfl, h⟩ := h3 j x hx
    exact ⟨b, off, rfl, h⟩
theorem rangeAt_turn {w w' : World} {b o : Nat} {cs : List Value} (h : w.rangeAt b o cs) (t : Turn no w w') : w'.rangeAt b o cs := fun j v hv => t.keep (h j v hv) (fun q => q)
def Z33 : Array Value := #[.int .i64 0, .int .i64 0, .int .i64 0, .int .u64 0, .slice none 0 0, .int .u8 0, .int .u8 0, .int .u8 0, .int .u8 0, .int .u8 0, .int .u8 0, .int .u8 0, .int .u8 0, .int .u8 0, .int .u8 0, .int .u8 0, .int .u8 0, .int .u8 0, .int .u8 0, .int .u8 0, .int .u8 0, .int .i64 0, .bool false]
/-- What holds at the head of each round. -/
def Rnd (w wr : World) (i : Nat) : Prop := ∃ d vq Q, Tw w.heap.size wr w.heap.size d vq Q ∧ (∀ j, (d j).E.length + (d j).R.length ≤ i) ∧ Q.length ≤ i ∧ Turn no w wr
theorem Rnd.next {w wr wr' : World} {i : Nat} {d : Nat → Pd} {Q : List (List UInt8)} (hd : ∀ j, (d j).E.length + (d j).R.length ≤ i) (hQ : Q.length ≤ i) (T : Turn no w wr) (h : After w.heap.size wr w.heap.size d Q wr') : Rnd w wr' (i + 1) := by
  obtain ⟨d', vq', Q', h', g, q, t⟩ := h
  exact ⟨d', vq', Q', h', fun j => by have := (g j).2.2; have := hd j; omega, by omega, T.trans t (fun b hb q => by have q : w.heap.size ≤ b := q; omega)⟩
set_option maxRecDepth 100000 in
set_option maxHeartbeats 4000000 in
theorem play13 (w : World) (v : Value) (l : List Opx) (hS : Script w v l) (lo hi : Int) (hl0 : Laid0 w) (hl1 : Laid1 w) (h2 : 2 ≤ w.heap.size) (hl : l.length ≤ 1599289640401) :
    Calls Tryd.prog 13 #[v, .int .i64 lo, .int .i64 hi] w fun e w' => e = .returned (.bool true) ∧ Turn no w w' := by
  obtain ⟨va, vc, hv, hcells, hcap, hle⟩ := hS.slice
  subst hv
  clear hS
  have cb := begin9 w
  have Hl0 := shutX hl0
  have Hl1 := shutX hl1
  clear hl0 hl1
  obtain ⟨n, hn⟩ : ∃ n, Shut (l.length = n) := ⟨_, rfl⟩
  rw [show l.length = n from hn.out] at hcap hle hl ⊢
  go_enter Tryd.func13, Tryd.ntmps13
  go_wp2_with (go_at_call 9; refine cb.mono ?_; rintro e w1 ⟨rfl, d, hT, hd, t1⟩)
  have R0 : Rnd w w1 0 := ⟨d, _, [], hT, fun j => by rw [(hd j).1, (hd j).2]; simp, by simp, t1⟩
  obtain ⟨tw, htw⟩ : ∃ t, w.heap.size = t := ⟨_, rfl⟩
  rw [htw]
  clear cb hT hd t1
  go_loopw [8, 9] (fun b c wr => ∃ i : Nat, i ≤ n ∧ b = .bool true ∧ c = .int .i64 i ∧ Rnd w wr i) (fun _ c _ => n - (intOf c).toNat)
  case atStart => exact ⟨0, by omega, rfl, rfl, R0⟩
  case round =>
    clear R0
    obtain ⟨i, hi', rfl, rfl, d', vq, Q, hT, hd, hQ, T⟩ := hrel
    by_cases hlt : i < n
    · have hlt' : (i : Int) < (n : Int) := by omega
      obtain ⟨x, hx⟩ : ∃ x, l[i]? = some x := ⟨l[i]'(by rw [hn.out]; exact hlt), List.getElem?_eq_getElem _⟩
      obtain ⟨b, off, rfl, hr, hb, hok⟩ := hcells i x hx
      have hr1 := rangeAt_turn hr T
      have s33l : (Tryd.prog.info? 33).map (·.size) = some (opC x).length := by rw [opC_len hok]; exact size33c
      have s33 := sizeOp hok
      have o33 : (opC x).toArray.all (·.oneCell') = true := by
        simp [opC, bv, Value.oneCell']
        obtain ⟨a', c', e⟩ := hb.slice
        rw [e]
      have z33 : Z33.size = (opC x).toArray.size := by simp [opC_len hok]; rfl
      have hstep := fun W (t : Turn no wr W) => step10 (hT.turn_no t) x hok (hb.turn_no (T.then_no t)) (Hl0.out.turn (T.then_no t) (fun q => q)) (Hl1.out.turn (T.then_no t) (fun q => q)) h2 (fun k _ => by have := hd k; omega) (by omega)
      have hfin := fun W' (h : After w.heap.size wr w.heap.size d' Q W') => Rnd.next hd hQ T h
      rw [htw] at hstep hfin
      have Hfin := shutX hfin
      have hC : (opC x).toArray = (opC x).toArray := rfl
      clear hfin hT hd hQ hr hx hcells hb hok
      generalize hCC : (opC x) = C at *
      go_upto_region 8 with (first | (refine wpList_load_mid rfl 33 (.tmp 25) rfl b (off + i * 23) rfl C _ hr1 Tryd.underlying33 rfl s33l ?_) | (refine wpList_store_anyX rfl rfl 33 (.tmp 10) (.tmp 26) rfl wr.heap.size C.toArray rfl rfl 33 Z33 (Row.new wr _ 33) s33 z33 o33 ?_; intro w3 R3 T3))
      have t3 : Turn no wr w3 := ((Turn.refl no wr).alloc _).trans T3 (fun k hk q => by have q : k = wr.heap.size := q; omega)
      have cst := hstep w3 t3
      have Ht3 := shutX t3
      clear T3 t3 hstep
      clear hr1 s33l o33 z33 hC Hl0 Hl1
      obtain ⟨CA, hCA⟩ : ∃ A, C.toArray = A := ⟨_, rfl⟩
      rw [hCA] at R3 cst s33
      try rw [hCA]
      clear hCA hCC
      obtain ⟨n0, hn0⟩ : ∃ z, wr.heap.size = z := ⟨_, rfl⟩
      rw [hn0] at R3
      try rw [hn0]
      go_upto_region 9 with (first | (guard_target =~ wpList _ _ _ ({ dst := _, op := Op.load 33 _, .. } :: _) _ _; refine wpList_load_row rfl 33 (.tmp 10) rfl n0 rfl 33 CA _ _ R3 Tryd.underlying33 rfl s33 ?_) | (go_at_call 10; refine cst.mono ?_; rintro e w4 ⟨rfl, A4⟩))
      clear cst R3 s33
      go_wp2_with fail
      refine ⟨⟨i + 1, by omega, rfl, ?_, Hfin.out _ (A4.pre Ht3.out)⟩, ?_⟩
      · first | rfl | (simp only [intOf]; omega) | (congr 1)
      · simp only [intOf]; omega
    · obtain rfl : i = n := by omega
      have hlt' : ¬ (i : Int) < (i : Int) := by omega
      go_wp2_with fail
      go_ret
      exact ⟨rfl, T⟩
end Go.Proofs.YtnlcngcilojnkabDoor

/- The tops: SealEnters, SealSigns, SealChecks, SealTells. -/
namespace Go.Proofs.YtnlcngcilojnkabDoor
open Go.RowKit Go.Maps Go.MuLone
set_option linter.unusedVariables false

set_option maxRecDepth 100000 in
theorem top4 (w : World) (v : Value) (l : List Opx) (hS : Script w v l) (hl0 : Laid0 w) (hl1 : Laid1 w) (h2 : 2 ≤ w.heap.size) (hl : l.length ≤ 1599289640401) :
    Calls Tryd.prog 4 #[v] w fun e w' => e = .returned (.bool true) ∧ Turn no w w' := by
  have c := play13 w v l hS 7 7 hl0 hl1 h2 hl
  go_enter Tryd.func4, Tryd.ntmps4
  go_wp2_with (go_at_call 13; refine c.mono ?_; rintro e w1 ⟨rfl, t⟩)
  go_ret
  exact ⟨rfl, t⟩
set_option maxRecDepth 100000 in
theorem top5 (w : World) (v : Value) (l : List Opx) (hS : Script w v l) (hl0 : Laid0 w) (hl1 : Laid1 w) (h2 : 2 ≤ w.heap.size) (hl : l.length ≤ 1599289640401) :
    Calls Tryd.prog 5 #[v] w fun e w' => e = .returned (.bool true) ∧ Turn no w w' := by
  have c := play13 w v l hS 2 2 hl0 hl1 h2 hl
  go_enter Tryd.func5, Tryd.ntmps5
  go_wp2_with (go_at_call 13; refine c.mono ?_; rintro e w1 ⟨rfl, t⟩)
  go_ret
  exact ⟨rfl, t⟩
set_option maxRecDepth 100000 in
theorem top6 (w : World) (v : Value) (l : List Opx) (hS : Script w v l) (hl0 : Laid0 w) (hl1 : Laid1 w) (h2 : 2 ≤ w.heap.size) (hl : l.length ≤ 1599289640401) :
    Calls Tryd.prog 6 #[v] w fun e w' => e = .returned (.bool true) ∧ Turn no w w' := by
  have c := play13 w v l hS 3 3 hl0 hl1 h2 hl
  go_enter Tryd.func6, Tryd.ntmps6
  go_wp2_with (go_at_call 13; refine c.mono ?_; rintro e w1 ⟨rfl, t⟩)
  go_ret
  exact ⟨rfl, t⟩
set_option maxRecDepth 100000 in
theorem top7 (w : World) (v : Value) (l : List Opx) (hS : Script w v l) (hl0 : Laid0 w) (hl1 : Laid1 w) (h2 : 2 ≤ w.heap.size) (hl : l.length ≤ 1599289640401) :
    Calls Tryd.prog 7 #[v] w fun e w' => e = .returned (.bool true) ∧ Turn no w w' := by
  have c := play13 w v l hS 4 6 hl0 hl1 h2 hl
  go_enter Tryd.func7, Tryd.ntmps7
  go_wp2_with (go_at_call 13; refine c.mono ?_; rintro e w1 ⟨rfl, t⟩)
  go_ret
  exact ⟨rfl, t⟩
end Go.Proofs.YtnlcngcilojnkabDoor

/- A script, read. -/
namespace Go.Proofs.YtnlcngcilojnkabDoor
open Go.ChangeShapes Go.WideShapes Go.ChangeAt Go.RowKit Go.Joins Go.Deep
set_option linter.unusedVariables false

theorem cellsT5 : Tryd.prog.cellsOf 5 = 1 := by kernel_rfl
theorem cellsT29 : Tryd.prog.cellsOf 29 = 1 := by kernel_rfl
theorem cellsT31 : Tryd.prog.cellsOf 31 = 16 := by kernel_rfl
theorem cellsT28 : Tryd.prog.cellsOf 28 = 1 := by kernel_rfl
theorem cellsT33 : Tryd.prog.cellsOf 33 = 23 := by kernel_rfl
theorem cellsT3 : Tryd.prog.cellsOf 3 = 1 := by kernel_rfl
theorem cellsT4 : Tryd.prog.cellsOf 4 = 1 := by kernel_rfl
theorem bytes5 : Tryd.prog.bytesOf 5 = 1 := by kernel_rfl
theorem bytes33 : Tryd.prog.bytesOf 33 = 88 := by kernel_rfl
theorem weights_mem_all {H : Type} {P : Program} {e : TypeId} {d : DataW H} {n : Nat} : ∀ {l : List (DataW H)}, d ∈ l → n ∈ d.weights P e → n ∈ DataW.weightsAll P e l
  | [], h, _ => by simp at h
  | x :: r, h, hn => by
    simp only [DataW.weightsAll, List.mem_append]
    rcases List.mem_cons.1 h with rfl | h
    · exact .inl hn
    · exact .inr (weights_mem_all h hn)
theorem add3 (a : Addr) (l j : Nat) : (a.add l).add j = a.add (l + j) := by
  obtain ⟨b, o, s⟩ := a
  unfold Addr.add
  by_cases hl : l = 0
  · subst hl; simp
  · by_cases hj : j = 0
    · subst hj; simp [hl]
    · simp [hl, hj, Nat.add_assoc]

theorem choose_ltT {α : Type} [Inhabited α] {n : Nat} {p : Nat → α → Prop} (h : ∀ i, i < n → ∃ x, p i x) : ∃ f : Nat → α, ∀ i, i < n → p i (f i) :=
  ⟨fun i => if hi : i < n then (h i hi).choose else default, fun i hi => by simp only [hi, dite_true]; exact (h i hi).choose_spec⟩

section
variable {H : Type} {enc : TypeId × Value → H} {w : World} {base : Nat} {spare : Nat → Bool} {held : Bool}
theorem u8_wf {n : Int} (h : (Lit.int .u8 n).wf = true) : 0 ≤ n ∧ n < 256 := by
  have := bounds_u8 h
  omega
theorem u64_of {n : Int} (h : (Lit.int .u64 n).wf = true) : ∃ a : UInt64, n = (a.toNat : Int) := by
  simp only [Lit.wf, Bool.and_eq_true, decide_eq_true_eq] at h
  rw [show IntKind.u64.min = 0 by decide, show IntKind.u64.max = 18446744073709551615 by decide] at h
  refine ⟨UInt64.ofNat n.toNat, ?_⟩
  rw [UInt64.toNat_ofNat']
  have : n.toNat % 2 ^ 64 = n.toNat := Nat.mod_eq_of_lt (by omega)
  rw [this]
  omega

theorem open_bytes {n : Nat} {v : Value} {y : DataW H × List MemPlace} (h : DataW.trod enc Tryd.prog w base spare held n 29 [v] = some y) :
    ∃ bs, Bs w v bs ∧ ((y.1 = .nil ∧ bs = []) ∨ ∃ es sp, y.1 = .slice es sp ∧ es.length = bs.length) := by
  rcases open_ints Tryd.underlying29 Tryd.underlying5 cellsT5 h with ⟨hcs, hx⟩ | ⟨a, len, cap, zs, hcs, _, hl, hm, hz, hx, hcell, hwz⟩
  · simp at hcs
    exact ⟨[], Or.inl ⟨hcs, rfl⟩, Or.inl ⟨by rw [hx], rfl⟩⟩
  · simp at hcs
    have hlen : len ≤ zs.length := by rw [hz]; split <;> omega
    have hbl : ((zs.take len).map fun z => UInt8.ofNat z.toNat).length = len := by simp; omega
    refine ⟨(zs.take len).map fun z => UInt8.ofNat z.toNat, Or.inr ⟨a, cap, by rw [hcs, hbl], by rw [hbl]; exact hl, hm, fun j u hu => ?_⟩, Or.inr ⟨_, _, by rw [hx], by rw [hbl]; simp [lits]; omega⟩⟩
    have hj : j < len := by
      have := (List.getElem?_eq_some_iff.1 hu).1
      omega
    rw [hcell j (by omega)]
    rw [List.getElem?_map, List.getElem?_take, if_pos hj, List.getElem?_eq_getElem (by omega)] at hu
    simp only [Option.map_some, Option.some.injEq] at hu
    rw [← hu]
    have hw := u8_wf (hwz zs[j] (List.getElem_mem _))
    have e1 : zs.getD j 0 = zs[j] := by simp [show j < zs.length by omega]
    rw [e1]
    unfold bv
    congr 2
    simp
    omega
def byteOfV : Value → UInt8
  | .int _ k => UInt8.ofNat k.toNat
  | _ => 0

theorem open_seal {n : Nat} {L : List Value} {y : DataW H × List MemPlace} (h : DataW.trod enc Tryd.prog w base spare held n 31 L = some y) : ∃ X : List UInt8, X.length = 16 ∧ L = X.map bv := by
  obtain ⟨xs, m1, _, _, hlen, hn, hel⟩ := DataW.trod_array Tryd.underlying31 h
  rw [cellsT31] at hlen
  refine ⟨L.map byteOfV, by simpa using hlen, ?_⟩
  apply List.ext_getElem?
  intro j
  by_cases hj : j < 16
  · have h0 := hel j hj
    obtain ⟨x, hxj⟩ : ∃ x, xs[j]? = some x := ⟨xs[j]'(by omega), List.getElem?_eq_getElem (by omega)⟩
    rw [hxj, cellsT5, Nat.mul_one] at h0
    obtain ⟨k, e1, _, wk⟩ := DataW.trod_int Tryd.underlying5 h0
    have hc : L[j]? = some (.int .u8 k) := by
      have := congrArg (·[0]?) e1
      simpa [List.getElem?_take, List.getElem?_drop] using this
    have hb := bounds_u8 wk
    rw [hc]
    simp [hc, byteOfV, bv]
    omega
  · rw [List.getElem?_eq_none (by omega), List.getElem?_eq_none (by simp; omega)]

theorem cut1 {L : List Value} {o : Nat} {v : Value} (h : (L.drop o).take 1 = [v]) : L[o]? = some v := by
  have := congrArg (·[0]?) h
  simpa [List.getElem?_take, List.getElem?_drop] using this

theorem open_op {n : Nat} {L : List Value} {y : DataW H × List MemPlace} (h : DataW.trod enc Tryd.prog w base spare held n 33 L = some y) (hk : ∀ m ∈ y.1.weights Tryd.prog 33, m ≤ reachBytes) :
    ∃ x : Opx, L = opC x ∧ Bs w x.va x.bs ∧ x.X.length = 16 ∧ x.bs.length ≤ 140737488351232 := by
  obtain ⟨xs, m, hy1, hy2, hlen, hn, hel⟩ := DataW.trod_struct Tryd.underlying33 h
  rw [cellsT33] at hlen
  have hx : ∀ i, i < 8 → ∃ x, xs[i]? = some x := fun i hi => ⟨xs[i]'(by rw [hn]; exact hi), List.getElem?_eq_getElem _⟩
  obtain ⟨x0, e0⟩ := hx 0 (by omega)
  obtain ⟨x1, e1⟩ := hx 1 (by omega)
  obtain ⟨x2, e2⟩ := hx 2 (by omega)
  obtain ⟨x3, e3⟩ := hx 3 (by omega)
  obtain ⟨x4, e4⟩ := hx 4 (by omega)
  obtain ⟨x5, e5⟩ := hx 5 (by omega)
  obtain ⟨x6, e6⟩ := hx 6 (by omega)
  obtain ⟨x7, e7⟩ := hx 7 (by omega)
  have h0 : DataW.trod enc Tryd.prog w base spare held m 3 ((L.drop 0).take (Tryd.prog.cellsOf 3)) = some x0 := (hel 0 _ rfl).trans e0
  have h1 : DataW.trod enc Tryd.prog w base spare held m 3 ((L.drop 1).take (Tryd.prog.cellsOf 3)) = some x1 := (hel 1 _ rfl).trans e1
  have h2 : DataW.trod enc Tryd.prog w base spare held m 3 ((L.drop 2).take (Tryd.prog.cellsOf 3)) = some x2 := (hel 2 _ rfl).trans e2
  have h3 : DataW.trod enc Tryd.prog w base spare held m 28 ((L.drop 3).take (Tryd.prog.cellsOf 28)) = some x3 := (hel 3 _ rfl).trans e3
  have h4 : DataW.trod enc Tryd.prog w base spare held m 29 ((L.drop 4).take (Tryd.prog.cellsOf 29)) = some x4 := (hel 4 _ rfl).trans e4
  have h5 : DataW.trod enc Tryd.prog w base spare held m 31 ((L.drop 5).take (Tryd.prog.cellsOf 31)) = some x5 := (hel 5 _ rfl).trans e5
  have h6 : DataW.trod enc Tryd.prog w base spare held m 3 ((L.drop 21).take (Tryd.prog.cellsOf 3)) = some x6 := (hel 6 _ rfl).trans e6
  have h7 : DataW.trod enc Tryd.prog w base spare held m 4 ((L.drop 22).take (Tryd.prog.cellsOf 4)) = some x7 := (hel 7 _ rfl).trans e7
  rw [cellsT3] at h0 h1 h2 h6
  rw [cellsT28] at h3
  rw [cellsT29] at h4
  rw [cellsT31] at h5
  rw [cellsT4] at h7
  obtain ⟨k0, c0, _, w0⟩ := DataW.trod_int Tryd.underlying3 h0
  obtain ⟨k1, c1, _, w1⟩ := DataW.trod_int Tryd.underlying3 h1
  obtain ⟨k2, c2, _, w2⟩ := DataW.trod_int Tryd.underlying3 h2
  obtain ⟨k3, c3, _, w3⟩ := DataW.trod_int Tryd.underlying28 h3
  obtain ⟨k6, c6, _, w6⟩ := DataW.trod_int Tryd.underlying3 h6
  obtain ⟨k7, c7, _⟩ := DataW.trod_bool Tryd.underlying4 h7
  obtain ⟨a, rfl⟩ := u64_of w3
  have hL4 : (L.drop 4).take 1 = [L[4]'(by omega)] := by
    apply List.ext_getElem?
    intro j
    cases j with
    | zero => simp [List.getElem?_drop, show 4 < L.length by omega]
    | succ j => simp [List.getElem?_take]
  rw [hL4] at h4
  obtain ⟨bs, hb, hw⟩ := open_bytes h4
  obtain ⟨X, hX, eX⟩ := open_seal h5
  have hbk : bs.length ≤ 140737488351232 := by
    rcases hw with ⟨e, rfl⟩ | ⟨es, sp, e, hl⟩
    · simp
    · have h4w : (es.length + sp.length) * Tryd.prog.bytesOf 5 ∈ x4.1.weights Tryd.prog 29 := by
        rw [e]
        simp [DataW.weights, Tryd.underlying29]
      have hm : (es.length + sp.length) * Tryd.prog.bytesOf 5 ∈ y.1.weights Tryd.prog 33 := by
        rw [hy2]
        simp only [DataW.weights, Tryd.underlying33]
        exact DataW.weights_mem_each (j := 4) (t := 29) (d := x4.1) rfl (by rw [List.getElem?_map, e4]; rfl) _ h4w
      have := hk _ hm
      rw [bytes5] at this
      simp [reachBytes] at this
      omega
  refine ⟨⟨k0, k1, k2, a, _, bs, X, k6, k7⟩, ?_, hb, hX, hbk⟩
  have d0 := cut1 c0
  have d1 := cut1 c1
  have d2 := cut1 c2
  have d3 := cut1 c3
  have d6 := cut1 c6
  have d7 := cut1 c7
  apply List.ext_getElem?
  intro j
  match j with
  | 0 => simpa [opC] using d0
  | 1 => simpa [opC] using d1
  | 2 => simpa [opC] using d2
  | 3 => simpa [opC] using d3
  | 4 => simp [opC, show 4 < L.length by omega]
  | j + 5 =>
    simp only [opC, List.getElem?_cons_succ]
    by_cases hj : j < 16
    · have : ((L.drop 5).take 16)[j]? = L[j + 5]? := by
        rw [List.getElem?_take, List.getElem?_drop, if_pos hj, Nat.add_comm]
      rw [← this, eX, List.getElem?_append_left (by simpa [hX] using hj)]
    · rw [List.getElem?_append_right (by simp [hX]; omega)]
      simp only [List.length_map, hX]
      rcases (show j = 16 ∨ j = 17 ∨ 18 ≤ j by omega) with rfl | rfl | hj2
      · simpa using d6
      · simpa using d7
      · rw [List.getElem?_eq_none (by omega), List.getElem?_eq_none (by simp; omega)]

set_option maxRecDepth 100000 in
theorem open_script {n : Nat} {v : Value} {y : DataW H × List MemPlace} (h : DataW.trod enc Tryd.prog w base spare held n 22 [v] = some y) (hk : ∀ m ∈ y.1.weights Tryd.prog 22, m ≤ reachBytes) : ∃ l, Script w v l ∧ l.length ≤ 1599289640401 := by
  rcases open_slice Tryd.underlying22 h with ⟨hcs, _⟩ | ⟨a, len, cap, m, n', D, Pl, hcs, _, hl, hm, hmm, hx, hel⟩
  · simp at hcs
    exact ⟨[], Or.inl ⟨hcs, rfl⟩, by simp⟩
  · simp at hcs
    have hlm : len ≤ m := by rw [hmm]; split <;> omega
    have hspot : 0 < len → ∃ b off, a = ⟨b, off, none⟩ := fun h0 => by
      obtain ⟨cs', h1, h2⟩ := hel 0 (by omega)
      rw [cellsT33] at h1
      obtain ⟨_, hl', hc⟩ := World.cells?_some h1
      obtain ⟨b, off, spot⟩ := a
      have hc0 := World.cell?_spot ((hc 0 (by omega)).trans (List.getElem?_eq_getElem (by omega)))
      have hs : spot = none := by simpa [Addr.add] using hc0
      subst hs
      exact ⟨b, off, rfl⟩
    have hex : ∀ i, i < len → ∃ x : Opx, ∃ b off, a = ⟨b, off, none⟩ ∧ w.rangeAt b (off + i * 23) (opC x) ∧ Bs w x.va x.bs ∧ x.ok := by
      intro i hi
      obtain ⟨cs', h1, h2⟩ := hel i (by omega)
      rw [cellsT33] at h1
      obtain ⟨x, rfl, hb, hX, hbk⟩ := open_op h2 (fun q hq => hk q (by
        rw [hx]
        simp only [DataW.weights, Tryd.underlying22, List.mem_cons, List.mem_append]
        exact .inr (.inl (weights_mem_all (List.mem_map.2 ⟨i, List.mem_range.2 hi, rfl⟩) hq))))
      obtain ⟨_, hl', hc⟩ := World.cells?_some h1
      obtain ⟨b, off, rfl⟩ := hspot (by omega)
      refine ⟨x, b, off, rfl, fun j u hu => ?_, hb, ⟨hX, hbk⟩⟩
      have hj : j < 23 := by have := (List.getElem?_eq_some_iff.1 hu).1; omega
      have := hc j hj
      rw [add3, Addr.add_lit] at this
      rw [show off + i * 23 + j = off + (i * 23 + j) by omega, this, ← hu]
    have inst : Inhabited Opx := ⟨⟨0, 0, 0, 0, .slice none 0 0, [], [], 0, false⟩⟩
    obtain ⟨f, hf⟩ := choose_ltT hex
    refine ⟨(List.range len).map f, Or.inr ⟨a, cap, by rw [hcs]; simp, by simpa using hl, hm, fun j g hg => ?_⟩, ?_⟩
    case refine_2 =>
      have := hk ((((List.range len).map D).length + _) * Tryd.prog.bytesOf 33) (by
        rw [hx]
        simp only [DataW.weights, Tryd.underlying22, List.mem_cons]
        exact .inl rfl)
      rw [bytes33] at this
      simp [reachBytes] at this
      simp
      omega
    rw [List.getElem?_map] at hg
    by_cases hj : j < len
    · rw [List.getElem?_range hj] at hg
      simp at hg
      rw [← hg]
      exact hf j hj
    · rw [List.getElem?_eq_none (by simpa using hj)] at hg
      cases hg
end
end Go.Proofs.YtnlcngcilojnkabDoor
