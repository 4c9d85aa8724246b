/- What the row's argument and the listed variable give the walk. -/
import Derived.Test.YtbkbecjgphjpkabDoorG10
import Derived.Test.YtbkbecjgphjpkabDoorCards
import Derived.Test.YtbkbecjgphjpkabDoorTie
import Derived.ProofKit
import Derived.LaidMore
import Derived.OpenShut
import Derived.Stop.Joined
import Derived.ChangeOld
import Derived.SizedLaws
import Derived.Lib.SmallJoins
import Derived.Deep.Slices
import Derived.Deep.Strs
import Derived.Deep.DeepHandedRow
import Derived.JoinedCond
namespace Go.Proofs.YtbkbecjgphjpkabDoor
open Go.ChangeShapes Go.WideShapes Go.ChangeAt Go.RowKit Go.Joins Go.Deep
set_option linter.unusedVariables false

theorem own : ownKnob Tryd.prog.godebug = none := by kernel_rfl
theorem g0 : Tryd.prog.globalNamed "assent/wal.fourBits" = some 0 := by kernel_rfl
theorem tg0 : (Tryd.prog.globals[0]?).map (·.type) = some 114 := by kernel_rfl
theorem c89 : Tryd.prog.cellsOf 89 = 1 := by kernel_rfl
theorem laidOut : laidOutB Tryd.prog = true := by kernel_rfl
theorem cells5' : Tryd.prog.cellsOf 5 = 1 := by kernel_rfl
theorem cells55' : Tryd.prog.cellsOf 55 = 1 := by kernel_rfl

def laidA : List (String × DataW Unit) := [("assent/wal.fourBits", Rows.laid_assent_wal_fourBits)]
theorem fourBits_tab : (Rows.laid_assent_wal_fourBits : DataW Unit) = .agg (tab.map fun k => .lit (.int .u32 (k : Nat))) := by kernel_rfl
theorem doorA (os : Os) (args : Array Value) : laidMetH Tryd.prog laidA ((World.doorLaid Tryd.prog 4000 os).forCall (fun _ _ => 0) ⟨#[], args, []⟩).memory :=
  laidMetH_of_parts3 (fuel := 8) (laidMet_of_run' 8 (by kernel_rfl) (by kernel_rfl)) (by kernel_rfl) (by kernel_rfl)
theorem table {W : World} {fuel : Nat} {cs : Array Value} {p : List MemPlace} (hd : DataW.trod (fun _ => ()) Tryd.prog W 0 (fun _ => true) false fuel 114 cs.toList = some ((.agg (tab.map fun k => .lit (.int .u32 (k : Nat))) : DataW Unit), p)) (j : Nat) (hj : j < 16) : cs[j]? = some (.int .u32 ((tabN j : Nat) : Int)) := by
  obtain ⟨xs, m1, h1, hx1, hlen, hn, hel⟩ := DataW.trod_array Tryd.underlying114 hd
  have h0 := hel j hj
  simp only [Prod.mk.injEq, DataW.agg.injEq] at hx1
  obtain ⟨x, hxj⟩ : ∃ x, xs[j]? = some x := ⟨xs[j]'(by omega), List.getElem?_eq_getElem (by omega)⟩
  rw [hxj, c89, Nat.mul_one] at h0
  obtain ⟨k, e1, e2, _⟩ := DataW.trod_int Tryd.underlying89 h0
  have h3 : (xs.map (·.1))[j]? = some x.1 := by simp [hxj]
  rw [← hx1.1, List.getElem?_map, e2] at h3
  have hk : ((tabN j : Nat) : Int) = k := by
    unfold tabN
    rw [List.getD_eq_getElem?_getD]
    cases hq : tab[j]? with
    | none => rw [hq] at h3; cases h3
    | some y => rw [hq] at h3; simp at h3; simpa using h3
  rw [hk]
  have := congrArg (·[0]?) e1
  simpa [List.getElem?_take, List.getElem?_drop] using this
theorem of_laidA {W : World} (h : laidMetH Tryd.prog laidA W) : LaidT W := by
  rw [MakeChecks.laidMetH_plain _ _ _ (by kernel_rfl)] at h
  obtain ⟨ps, ⟨g, t, cs, f, p, q, hg, ht, hv, hd, _⟩, _⟩ := h
  obtain rfl := Option.some.inj (g0.symm.trans hg)
  obtain rfl := Option.some.inj (tg0.symm.trans ht)
  rw [fourBits_tab] at hd
  intro j hj
  rw [World.var?_cell hg hv j]
  exact table hd j hj

theorem bytes5' : Tryd.prog.bytesOf 5 = 1 := by kernel_rfl
theorem bytes55' : Tryd.prog.bytesOf 55 = 24 := by kernel_rfl
theorem bytes41' : Tryd.prog.bytesOf 41 = 24 := by kernel_rfl
theorem weights_all {H : Type} {P : Program} {e : TypeId} : ∀ {ds : List (DataW H)} {d : DataW H} {n : Nat}, d ∈ ds → n ∈ d.weights P e → n ∈ DataW.weightsAll P e ds
  | [], _, _, h, _ => by cases h
  | x :: r, d, n, h, hn => by
    simp only [DataW.weightsAll, List.mem_append]
    rcases List.mem_cons.1 h with rfl | h
    · exact .inl hn
    · exact .inr (weights_all h hn)
theorem sized_of {H : Type} {P : Program} {ts : List TypeId} {ds : List (DataW H)} (hsz : (DataW.weightsEach P ts ds).all (· ≤ reachBytes) = true) {j : Nat} {t : TypeId} {d : DataW H} (ht : ts[j]? = some t) (hd : ds[j]? = some d) : ∀ k ∈ d.weights P t, k ≤ reachBytes := fun k hk => by
  have := List.all_eq_true.1 hsz _ (DataW.weights_mem_each ht hd k hk)
  exact of_decide_eq_true this
section
variable {H : Type} {enc : TypeId × Value → H} {w : World} {base : Nat} {spare : Nat → Bool} {held : Bool}
theorem add3 (a : Addr) (l j : Nat) : (a.add l).add j = a.add (l + j) := by
  obtain ⟨b, o, s⟩ := a
  unfold Addr.add
  by_cases hl : l = 0
  · subst hl; simp
  · by_cases hj : j = 0
    · subst hj; simp [hl]
    · simp [hl, hj, Nat.add_assoc]

theorem u8_wf {n : Int} (h : (Lit.int .u8 n).wf = true) : 0 ≤ n ∧ n < 256 := by
  have := bounds_u8 h
  omega
theorem open_bytes {n : Nat} {v : Value} {y : DataW H × List MemPlace} (h : DataW.trod enc Tryd.prog w base spare held n 55 [v] = some y) :
    ∃ bs, Bs w v bs ∧ ((y.1 = .nil ∧ bs = []) ∨ ∃ es sp, y.1 = .slice es sp ∧ es.length = bs.length) := by
  rcases open_ints Tryd.underlying55 Tryd.underlying5 cells5' h with ⟨hcs, hx⟩ | ⟨a, len, cap, zs, hcs, _, hl, hm, hz, hx, hcell, hwz⟩
  · simp at hcs
    exact ⟨[], Or.inl ⟨hcs, rfl⟩, Or.inl ⟨by rw [hx], rfl⟩⟩
  · simp at hcs
    have hlen : len ≤ zs.length := by rw [hz]; split <;> omega
    have hbl : ((zs.take len).map fun z => UInt8.ofNat z.toNat).length = len := by simp; omega
    refine ⟨(zs.take len).map fun z => UInt8.ofNat z.toNat, Or.inr ⟨a, cap, by rw [hcs, hbl], by rw [hbl]; exact hl, hm, fun j u hu => ?_⟩, Or.inr ⟨_, _, by rw [hx], by rw [hbl]; simp [lits]; omega⟩⟩
    have hj : j < len := by
      have := (List.getElem?_eq_some_iff.1 hu).1
      omega
    rw [hcell j (by omega)]
    rw [List.getElem?_map, List.getElem?_take, if_pos hj, List.getElem?_eq_getElem (by omega)] at hu
    simp only [Option.map_some, Option.some.injEq] at hu
    rw [← hu]
    have hw := u8_wf (hwz zs[j] (List.getElem_mem _))
    have e1 : zs.getD j 0 = zs[j] := by simp [show j < zs.length by omega]
    rw [e1]
    unfold bv
    congr 2
    simp
    omega

theorem one_cell {a : Addr} {cs : List Value} (h : w.cells? base a 1 = some cs) : ∃ x, cs = [x] ∧ w.cell? (a.add 0) = some x := by
  obtain ⟨_, hl, hc⟩ := World.cells?_some h
  match cs, hl with
  | [x], _ => exact ⟨x, rfl, hc 0 (by omega)⟩
theorem choose_lt' {α : Type} [Inhabited α] {n : Nat} {p : Nat → α → Prop} (h : ∀ i, i < n → ∃ x, p i x) : ∃ f : Nat → α, ∀ i, i < n → p i (f i) :=
  ⟨fun i => if hi : i < n then Classical.choose (h i hi) else default, fun i hi => by
    simp only [hi, dif_pos]
    exact Classical.choose_spec (h i hi)⟩
theorem bytes_sized {y : DataW H × List MemPlace} {bs : List UInt8} (hw : (y.1 = .nil ∧ bs = []) ∨ ∃ es sp, y.1 = .slice es sp ∧ es.length = bs.length) (hs : ∀ k ∈ y.1.weights Tryd.prog 55, k ≤ reachBytes) : bs.length ≤ 140737488355328 := by
  rcases hw with ⟨_, rfl⟩ | ⟨es, sp, e, hl⟩
  · simp
  · have h1 := hs ((es.length + sp.length) * Tryd.prog.bytesOf 5) (by
      rw [e]
      simp only [DataW.weights, Tryd.underlying55]
      refine List.mem_cons.2 (.inl ?_)
      simp)
    rw [bytes5'] at h1
    have h2 : (es.length + sp.length) * 1 ≤ 140737488351232 := h1
    omega
theorem open_bl {n : Nat} {v : Value} {y : DataW H × List MemPlace} (h : DataW.trod enc Tryd.prog w base spare held n 28 [v] = some y) (hs : ∀ k ∈ y.1.weights Tryd.prog 28, k ≤ reachBytes) : ∃ ts, Bl w v ts ∧ ts.length ≤ 140737488355328 ∧ ∀ t ∈ ts, t.2.length ≤ 140737488355328 := by
  rcases open_slice Tryd.underlying28 h with ⟨hcs, _⟩ | ⟨a, len, cap, m, n', D, Pl, hcs, _, hl, hm, hmm, hx, hel⟩
  · simp at hcs
    exact ⟨[], ⟨none, 0, by rw [hcs]; rfl, by simp, by simp, fun j t ht => by simp at ht⟩, by simp, fun t ht => by cases ht⟩
  · simp at hcs
    have hlm : len ≤ m := by rw [hmm]; split <;> omega
    have hlen : len ≤ 140737488355328 := by
      have h1 := hs ((len + (m - len)) * Tryd.prog.bytesOf 55) (by
        rw [hx]
        simp only [DataW.weights, Tryd.underlying28]
        refine List.mem_cons.2 (.inl ?_)
        simp)
      rw [bytes55'] at h1
      have h2 : (len + (m - len)) * 24 ≤ 140737488351232 := h1
      omega
    have hex : ∀ i, i < len → ∃ x : It, (w.cell? (a.add i) = some x.1 ∧ Bs w x.1 x.2) ∧ x.2.length ≤ 140737488355328 := by
      intro i hi
      obtain ⟨cs', h1, h2⟩ := hel i (by omega)
      rw [cells55'] at h1
      obtain ⟨x, rfl, c0⟩ := one_cell h1
      obtain ⟨bs, hb, hw⟩ := open_bytes h2
      rw [add3, Nat.mul_one, Nat.add_zero] at c0
      refine ⟨(x, bs), ⟨c0, hb⟩, bytes_sized hw (fun k hk => hs k ?_)⟩
      rw [hx]
      simp only [DataW.weights, Tryd.underlying28]
      exact List.mem_cons_of_mem _ (List.mem_append.2 (.inl (weights_all (d := D i) (List.mem_map.2 ⟨i, by simpa using hi, rfl⟩) hk)))
    have inst : Inhabited It := ⟨(.slice none 0 0, [])⟩
    obtain ⟨f, hf⟩ := choose_lt' hex
    refine ⟨(List.range len).map f, ⟨some a, cap, by rw [hcs]; simp, by simpa using hl, by simp only [maxLen] at hm; omega, fun j t ht => ?_⟩, by simpa using hlen, fun t ht => ?_⟩
    · rw [List.getElem?_map] at ht
      by_cases hj : j < len
      · rw [List.getElem?_range hj] at ht
        simp at ht
        rw [← ht]
        obtain ⟨⟨q1, q2⟩, _⟩ := hf j hj
        obtain ⟨b, o, sp⟩ := a
        have hs : sp = none := by
          have := World.cell?_spot (hf 0 (by omega)).1.1
          simpa [Addr.add] using this
        subst hs
        rw [Addr.add_lit] at q1
        exact ⟨b, o, rfl, q1, q2⟩
      · rw [List.getElem?_eq_none (by simpa using hj)] at ht
        cases ht
    · obtain ⟨i, hi, rfl⟩ := List.mem_map.1 ht
      exact (hf i (by simpa using hi)).2
end

theorem cells3' : Tryd.prog.cellsOf 3 = 1 := by kernel_rfl
theorem cells4' : Tryd.prog.cellsOf 4 = 1 := by kernel_rfl
theorem cellsBB' : Tryd.prog.cellsOf 28 = 1 := by kernel_rfl
theorem cellsIS' : Tryd.prog.cellsOf 35 = 1 := by kernel_rfl
theorem cellsTS' : Tryd.prog.cellsOf 36 = 1 := by kernel_rfl
theorem cellsT' : Tryd.prog.cellsOf 41 = 3 := by kernel_rfl
theorem cellsLF' : Tryd.prog.cellsOf 38 = 5 := by kernel_rfl
theorem choose_ltT {α : Type} [Inhabited α] {n : Nat} {p : Nat → α → Prop} (h : ∀ i, i < n → ∃ x, p i x) : ∃ f : Nat → α, ∀ i, i < n → p i (f i) :=
  ⟨fun i => if hi : i < n then (h i hi).choose else default, fun i hi => by simp only [hi, dite_true]; exact (h i hi).choose_spec⟩
theorem cut1 {L : List Value} {o : Nat} {v : Value} (h : (L.drop o).take 1 = [v]) : L[o]? = some v := by
  have := congrArg (·[0]?) h
  simpa [List.getElem?_take, List.getElem?_drop] using this
theorem one_drop {L : List Value} {o : Nat} (h : o < L.length) : (L.drop o).take 1 = [L[o]] := by
  apply List.ext_getElem?
  intro j
  cases j with
  | zero => simp [List.getElem?_drop, h]
  | succ j => simp [List.getElem?_take]
section
variable {H : Type} {enc : TypeId × Value → H} {w : World} {base : Nat} {spare : Nat → Bool} {held : Bool}
theorem open_keep {n : Nat} {v : Value} {y : DataW H × List MemPlace} (h : DataW.trod enc Tryd.prog w base spare held n 35 [v] = some y) : ∃ ks : List Int, Vs w v (ks.map iv) := by
  rcases open_ints Tryd.underlying35 Tryd.underlying3 cells3' h with ⟨hcs, hx⟩ | ⟨a, len, cap, zs, hcs, _, hl, hm, hz, hx, hcell, hwz⟩
  · simp at hcs
    exact ⟨[], Or.inl ⟨hcs, rfl⟩⟩
  · simp at hcs
    have hlen : len ≤ zs.length := by rw [hz]; split <;> omega
    have hbl : ((zs.take len).map iv).length = len := by simp; omega
    refine ⟨zs.take len, Or.inr ⟨a, cap, by rw [hcs, hbl], by rw [hbl]; exact hl, hm, fun j u hu => ?_⟩⟩
    have hj : j < len := by
      have := (List.getElem?_eq_some_iff.1 hu).1
      omega
    rw [hcell j (by omega)]
    rw [List.getElem?_map, List.getElem?_take, if_pos hj, List.getElem?_eq_getElem (by omega)] at hu
    simp only [Option.map_some, Option.some.injEq] at hu
    rw [← hu]
    have e1 : zs.getD j 0 = zs[j] := by simp [show j < zs.length by omega]
    rw [e1]
    rfl
theorem open_tr {n : Nat} {L : List Value} {y : DataW H × List MemPlace} (h : DataW.trod enc Tryd.prog w base spare held n 41 L = some y) : ∃ t : Tr, L = [.int .i64 t.when, .int .i64 t.kind, .bool t.done] := by
  obtain ⟨xs, m, _, _, hlen, hn, hel⟩ := DataW.trod_struct Tryd.underlying41 h
  rw [cellsT'] at hlen
  have hx : ∀ i, i < 3 → ∃ x, xs[i]? = some x := fun i hi => ⟨xs[i]'(by rw [hn]; exact hi), List.getElem?_eq_getElem _⟩
  obtain ⟨x0, e0⟩ := hx 0 (by omega)
  obtain ⟨x1, e1⟩ := hx 1 (by omega)
  obtain ⟨x2, e2⟩ := hx 2 (by omega)
  have h0 : DataW.trod enc Tryd.prog w base spare held m 3 ((L.drop 0).take (Tryd.prog.cellsOf 3)) = some x0 := (hel 0 _ rfl).trans e0
  have h1 : DataW.trod enc Tryd.prog w base spare held m 3 ((L.drop 1).take (Tryd.prog.cellsOf 3)) = some x1 := (hel 1 _ rfl).trans e1
  have h2 : DataW.trod enc Tryd.prog w base spare held m 4 ((L.drop 2).take (Tryd.prog.cellsOf 4)) = some x2 := (hel 2 _ rfl).trans e2
  rw [cells3'] at h0 h1
  rw [cells4'] at h2
  obtain ⟨k0, c0, _, w0⟩ := DataW.trod_int Tryd.underlying3 h0
  obtain ⟨k1, c1, _, w1⟩ := DataW.trod_int Tryd.underlying3 h1
  obtain ⟨k2, c2, _⟩ := DataW.trod_bool Tryd.underlying4 h2
  refine ⟨⟨k0, k1, k2⟩, ?_⟩
  have d0 := cut1 c0
  have d1 := cut1 c1
  have d2 := cut1 c2
  apply List.ext_getElem?
  intro j
  match j with
  | 0 => simpa using d0
  | 1 => simpa using d1
  | 2 => simpa using d2
  | j + 3 => rw [List.getElem?_eq_none (by omega), List.getElem?_eq_none (by simp)]
set_option maxRecDepth 100000 in
theorem open_trs {n : Nat} {v : Value} {y : DataW H × List MemPlace} (h : DataW.trod enc Tryd.prog w base spare held n 36 [v] = some y) (hs : ∀ k ∈ y.1.weights Tryd.prog 36, k ≤ reachBytes) : ∃ l, Trs w v l ∧ l.length ≤ 140737488355328 := by
  rcases open_slice Tryd.underlying36 h with ⟨hcs, _⟩ | ⟨a, len, cap, m, n', D, Pl, hcs, _, hl, hm, hmm, hx, hel⟩
  · simp at hcs
    exact ⟨[], ⟨none, 0, hcs, by simp, fun j x hx => by simp at hx⟩, by simp⟩
  · simp at hcs
    have hlm : len ≤ m := by rw [hmm]; split <;> omega
    have hspot : 0 < len → ∃ b off, a = ⟨b, off, none⟩ := fun h0 => by
      obtain ⟨cs', h1, h2⟩ := hel 0 (by omega)
      rw [cellsT'] at h1
      obtain ⟨_, hl', hc⟩ := World.cells?_some h1
      obtain ⟨b, off, spot⟩ := a
      have hc0 := World.cell?_spot ((hc 0 (by omega)).trans (List.getElem?_eq_getElem (by omega)))
      have hs : spot = none := by simpa [Addr.add] using hc0
      subst hs
      exact ⟨b, off, rfl⟩
    have hex : ∀ i, i < len → ∃ t : Tr, ∃ b off, a = ⟨b, off, none⟩ ∧ w.cell? ⟨b, off + i * 3, none⟩ = some (.int .i64 t.when) ∧ w.cell? ⟨b, off + i * 3 + 1, none⟩ = some (.int .i64 t.kind) ∧ w.cell? ⟨b, off + i * 3 + 2, none⟩ = some (.bool t.done) := by
      intro i hi
      obtain ⟨cs', h1, h2⟩ := hel i (by omega)
      rw [cellsT'] at h1
      obtain ⟨x, rfl⟩ := open_tr h2
      obtain ⟨_, hl', hc⟩ := World.cells?_some h1
      obtain ⟨b, off, rfl⟩ := hspot (by omega)
      have d : ∀ k, k < 3 → w.cell? ⟨b, off + i * 3 + k, none⟩ = [Value.int .i64 x.when, .int .i64 x.kind, .bool x.done][k]? := fun k hk => by
        have := hc k hk
        rw [add3, Addr.add_lit] at this
        rw [show off + i * 3 + k = off + (i * 3 + k) by omega]
        exact this
      exact ⟨x, b, off, rfl, d 0 (by omega), d 1 (by omega), d 2 (by omega)⟩
    haveI : Inhabited Tr := ⟨⟨0, 0, false⟩⟩
    obtain ⟨f, hf⟩ := choose_ltT hex
    refine ⟨(List.range len).map f, ⟨some a, cap, by rw [hcs]; simp, by simp only [maxLen] at hm; simp; omega, fun j g hg => ?_⟩, ?_⟩
    · rw [List.getElem?_map] at hg
      by_cases hj : j < len
      · rw [List.getElem?_range hj] at hg
        simp at hg
        rw [← hg]
        obtain ⟨b, off, rfl, r⟩ := hf j hj
        exact ⟨b, off, rfl, r⟩
      · rw [List.getElem?_eq_none (by simpa using hj)] at hg
        cases hg
    · have h1 := hs ((len + (m - len)) * Tryd.prog.bytesOf 41) (by
        rw [hx]
        simp only [DataW.weights, Tryd.underlying36]
        refine List.mem_cons.2 (.inl ?_)
        simp)
      rw [bytes41'] at h1
      have h2 : (len + (m - len)) * 24 ≤ 140737488351232 := h1
      simp
      omega
theorem open_life {n : Nat} {L : List Value} {y : DataW H × List MemPlace} (h : DataW.trod enc Tryd.prog w base spare held n 38 L = some y) (hs : ∀ k ∈ y.1.weights Tryd.prog 38, k ≤ reachBytes) :
    ∃ f : Lif, L = [f.vr, f.vy, f.va, .int .i64 f.keep, .int .u8 f.junk.toNat] ∧ (Bl w f.vr f.rs ∧ Vs w f.vy (f.ys.map iv) ∧ Trs w f.va f.arms) ∧ (f.rs.length ≤ 140737488355328 ∧ (∀ t ∈ f.rs, t.2.length ≤ 140737488355328) ∧ f.arms.length ≤ 140737488355328) := by
  obtain ⟨xs, m, _, hy, hlen, hn, hel⟩ := DataW.trod_struct Tryd.underlying38 h
  rw [cellsLF'] at hlen
  have hx : ∀ i, i < 5 → ∃ x, xs[i]? = some x := fun i hi => ⟨xs[i]'(by rw [hn]; exact hi), List.getElem?_eq_getElem _⟩
  obtain ⟨x0, e0⟩ := hx 0 (by omega)
  obtain ⟨x1, e1⟩ := hx 1 (by omega)
  obtain ⟨x2, e2⟩ := hx 2 (by omega)
  obtain ⟨x3, e3⟩ := hx 3 (by omega)
  obtain ⟨x4, e4⟩ := hx 4 (by omega)
  have h0 : DataW.trod enc Tryd.prog w base spare held m 28 ((L.drop 0).take (Tryd.prog.cellsOf 28)) = some x0 := (hel 0 _ rfl).trans e0
  have h1 : DataW.trod enc Tryd.prog w base spare held m 35 ((L.drop 1).take (Tryd.prog.cellsOf 35)) = some x1 := (hel 1 _ rfl).trans e1
  have h2 : DataW.trod enc Tryd.prog w base spare held m 36 ((L.drop 2).take (Tryd.prog.cellsOf 36)) = some x2 := (hel 2 _ rfl).trans e2
  have h3 : DataW.trod enc Tryd.prog w base spare held m 3 ((L.drop 3).take (Tryd.prog.cellsOf 3)) = some x3 := (hel 3 _ rfl).trans e3
  have h4 : DataW.trod enc Tryd.prog w base spare held m 5 ((L.drop 4).take (Tryd.prog.cellsOf 5)) = some x4 := (hel 4 _ rfl).trans e4
  rw [cellsBB', one_drop (by omega)] at h0
  rw [cellsIS', one_drop (by omega)] at h1
  rw [cellsTS', one_drop (by omega)] at h2
  rw [cells3'] at h3
  rw [cells5'] at h4
  have s0 : ∀ k ∈ x0.1.weights Tryd.prog 28, k ≤ reachBytes := fun k hk => hs k (by
    rw [hy]
    simp only [DataW.weights, Tryd.underlying38]
    exact DataW.weights_mem_each (j := 0) (t := 28) rfl (by simp [e0]) k hk)
  have s2 : ∀ k ∈ x2.1.weights Tryd.prog 36, k ≤ reachBytes := fun k hk => hs k (by
    rw [hy]
    simp only [DataW.weights, Tryd.underlying38]
    exact DataW.weights_mem_each (j := 2) (t := 36) rfl (by simp [e2]) k hk)
  obtain ⟨ts, hb, hbb, hbb'⟩ := open_bl h0 s0
  obtain ⟨ks, hk⟩ := open_keep h1
  obtain ⟨l, ht, htb⟩ := open_trs h2 s2
  obtain ⟨k3, c3, _, w3⟩ := DataW.trod_int Tryd.underlying3 h3
  obtain ⟨k4, c4, _, w4⟩ := DataW.trod_int Tryd.underlying5 h4
  have hb4 := u8_wf w4
  refine ⟨⟨L[0], L[1], L[2], ts, ks, l, k3, UInt8.ofNat k4.toNat⟩, ?_, ⟨hb, hk, ht⟩, hbb, hbb', htb⟩
  have d3 := cut1 c3
  have d4 := cut1 c4
  apply List.ext_getElem?
  intro j
  match j with
  | 0 => simp [show 0 < L.length by omega]
  | 1 => simp [show 1 < L.length by omega]
  | 2 => simp [show 2 < L.length by omega]
  | 3 => simpa using d3
  | 4 =>
    rw [d4]
    simp
    omega
  | j + 5 => rw [List.getElem?_eq_none (by omega), List.getElem?_eq_none (by simp)]
set_option maxRecDepth 100000 in
theorem open_lives {n : Nat} {v : Value} {y : DataW H × List MemPlace} (h : DataW.trod enc Tryd.prog w base spare held n 22 [v] = some y) (hs : ∀ k ∈ y.1.weights Tryd.prog 22, k ≤ reachBytes) :
    ∃ l, Lvs w v l ∧ ∀ f ∈ l, (f.rs.length ≤ 140737488355328 ∧ (∀ t ∈ f.rs, t.2.length ≤ 140737488355328) ∧ f.arms.length ≤ 140737488355328) := by
  rcases open_slice Tryd.underlying22 h with ⟨hcs, _⟩ | ⟨a, len, cap, m, n', D, Pl, hcs, _, hl, hm, hmm, hx, hel⟩
  · simp at hcs
    exact ⟨[], ⟨none, 0, hcs, by simp, fun j x hx => by simp at hx⟩, fun f hf => by cases hf⟩
  · simp at hcs
    have hlm : len ≤ m := by rw [hmm]; split <;> omega
    have hspot : 0 < len → ∃ b off, a = ⟨b, off, none⟩ := fun h0 => by
      obtain ⟨cs', h1, h2⟩ := hel 0 (by omega)
      rw [cellsLF'] at h1
      obtain ⟨_, hl', hc⟩ := World.cells?_some h1
      obtain ⟨b, off, spot⟩ := a
      have hc0 := World.cell?_spot ((hc 0 (by omega)).trans (List.getElem?_eq_getElem (by omega)))
      have hs : spot = none := by simpa [Addr.add] using hc0
      subst hs
      exact ⟨b, off, rfl⟩
    have hex : ∀ i, i < len → ∃ f : Lif, (∃ b off, a = ⟨b, off, none⟩ ∧ (w.cell? ⟨b, off + i * 5, none⟩ = some f.vr ∧ w.cell? ⟨b, off + i * 5 + 1, none⟩ = some f.vy ∧ w.cell? ⟨b, off + i * 5 + 2, none⟩ = some f.va ∧ w.cell? ⟨b, off + i * 5 + 3, none⟩ = some (.int .i64 f.keep) ∧ w.cell? ⟨b, off + i * 5 + 4, none⟩ = some (.int .u8 f.junk.toNat)) ∧
        (Bl w f.vr f.rs ∧ Vs w f.vy (f.ys.map iv) ∧ Trs w f.va f.arms)) ∧ (f.rs.length ≤ 140737488355328 ∧ (∀ t ∈ f.rs, t.2.length ≤ 140737488355328) ∧ f.arms.length ≤ 140737488355328) := by
      intro i hi
      obtain ⟨cs', h1, h2⟩ := hel i (by omega)
      rw [cellsLF'] at h1
      obtain ⟨f, rfl, hf, g1⟩ := open_life h2 (fun k hk => hs k (by
        rw [hx]
        simp only [DataW.weights, Tryd.underlying22]
        exact List.mem_cons_of_mem _ (List.mem_append.2 (.inl (weights_all (d := D i) (List.mem_map.2 ⟨i, by simpa using hi, rfl⟩) hk)))))
      obtain ⟨_, hl', hc⟩ := World.cells?_some h1
      obtain ⟨b, off, rfl⟩ := hspot (by omega)
      have d : ∀ k, k < 5 → w.cell? ⟨b, off + i * 5 + k, none⟩ = [f.vr, f.vy, f.va, .int .i64 f.keep, .int .u8 f.junk.toNat][k]? := fun k hk => by
        have := hc k hk
        rw [add3, Addr.add_lit] at this
        rw [show off + i * 5 + k = off + (i * 5 + k) by omega]
        exact this
      exact ⟨f, ⟨b, off, rfl, ⟨d 0 (by omega), d 1 (by omega), d 2 (by omega), d 3 (by omega), d 4 (by omega)⟩, hf⟩, g1⟩
    haveI : Inhabited Lif := ⟨⟨.slice none 0 0, .slice none 0 0, .slice none 0 0, [], [], [], 0, 0⟩⟩
    obtain ⟨f, hf⟩ := choose_ltT hex
    refine ⟨(List.range len).map f, ⟨some a, cap, by rw [hcs]; simp, by simp only [maxLen] at hm; simp; omega, fun j g hg => ?_⟩, fun g hg => ?_⟩
    · rw [List.getElem?_map] at hg
      by_cases hj : j < len
      · rw [List.getElem?_range hj] at hg
        simp at hg
        rw [← hg]
        obtain ⟨⟨b, off, rfl, r⟩, _⟩ := hf j hj
        exact ⟨b, off, rfl, r⟩
      · rw [List.getElem?_eq_none (by simpa using hj)] at hg
        cases hg
    · obtain ⟨i, hi, rfl⟩ := List.mem_map.1 hg
      exact (hf i (by simpa using hi)).2
end
end Go.Proofs.YtbkbecjgphjpkabDoor
