/- Texts in one. -/
import Derived.Test.YtbhimedajfkioaaQ1
import Derived.Test.YtbhimedajfkioaaC3
import Derived.Deep.RegionHeld3
/- Index of the program and of the document. -/
namespace Go.Proofs.Ytbhimedajfkioaa
open Go.RowKit
set_option linter.unusedVariables false

/-- The first place of an address, or -1. -/
def idxE : List Mb → Nat → Int
  | [], _ => -1
  | m :: r, a => if m.ad = a then 0 else if idxE r a < 0 then -1 else idxE r a + 1
theorem idx_miss (l : List Mb) (a : Nat) (h : ∀ m ∈ l, m.ad ≠ a) : idxE l a = -1 := by
  induction l with
  | nil => rfl
  | cons m r ih =>
    rw [idxE, if_neg (h m (by simp)), ih (fun x hx => h x (by simp [hx]))]
    rfl
theorem idx_hit (l : List Mb) (a k : Nat) (m : Mb) (h : ∀ x ∈ l.take k, x.ad ≠ a) (hm : l[k]? = some m) (ha : m.ad = a) : idxE l a = k := by
  induction l generalizing k with
  | nil => simp at hm
  | cons x r ih =>
    cases k with
    | zero =>
      simp at hm
      subst hm
      rw [idxE, if_pos ha]
      rfl
    | succ k =>
      rw [idxE, if_neg (h x (by simp)), ih k (fun y hy => h y (by simp [hy])) (by simpa using hm), if_neg (by omega)]
      omega

set_option maxRecDepth 100000 in
set_option maxHeartbeats 1000000 in
theorem mine39 (w : World) (m : Mb) (p : Addr) (a : Nat) (hp : w.cell? p = some (.int .u64 a)) : Calls Try.prog 124 #[.agg #[.int .u64 m.ad, .int .u64 m.pw, .int .i64 m.pr], .pointer (some p)] w fun e w' => ∃ bb : Bool, e = .returned (.bool bb) ∧ (bb = true ↔ m.ad = a) ∧ Turn no w w' := by
  have T0 : Turn no w (w.alloc (.cells #[.int .u64 m.ad, .int .u64 m.pw, .int .i64 m.pr] 71)) := (Turn.refl no w).alloc _
  have hp1 := T0.keep hp (fun q => q)
  go_enter Try.func124, Try.ntmps124
  go_wp2_with fail
  go_ret
  exact ⟨_, rfl, by simp; omega, T0⟩
set_option maxRecDepth 100000 in
set_option maxHeartbeats 1000000 in
theorem index38 (w : World) (v : Value) (l : List Mb) (h : Ms w v l) (p : Addr) (a : Nat) (hp : w.cell? p = some (.int .u64 a)) : Calls Try.prog 123 #[v, .func (.func 124) #[] #[.pointer (some p)]] w fun e w' => e = .returned (.int .i64 (idxE l a)) ∧ Turn no w w' := by
  obtain ⟨ad, cap, rfl, h⟩ := h
  have hcells := h.cells
  have hok := h.ok
  have hle : l.length ≤ 9223372036854775807 := by have := h.le; have := h.cap; simp only [maxLen] at this; omega
  clear h
  obtain ⟨n, hn⟩ : ∃ n, Hid (l.length = n) := ⟨_, rfl⟩
  have hn' : l.length = n := hn.out
  rw [hn'] at hle ⊢
  clear hn'
  go_enter Try.func123, Try.ntmps123
  go_wp2_with fail
  go_loopw [8] (fun c wr => ∃ k : Nat, k ≤ n ∧ c = .int .i64 k ∧ (∀ m ∈ l.take k, m.ad ≠ a) ∧ Turn no w wr) (fun c _ => n - (intOf c).toNat)
  case atStart => exact ⟨0, by omega, rfl, by simp, Turn.refl _ _⟩
  case round =>
    obtain ⟨k, hk, rfl, hall, T⟩ := hrel
    by_cases hlt : k < n
    · obtain ⟨m, hm⟩ : ∃ m, l[k]? = some m := ⟨l[k]'(by rw [hn.out]; exact hlt), List.getElem?_eq_getElem _⟩
      obtain ⟨b, off, rfl, c0, c1, c2⟩ := hcells k m hm
      have c0 := T.keep c0 (fun q => q)
      have c1 := T.keep c1 (fun q => q)
      have c2 := T.keep c2 (fun q => q)
      have hlt' : (k : Int) < (n : Int) := by omega
      have hcl := mine39 wr m p a (T.keep hp (fun q => q))
      have HH := idx_hit l a k m hall hm
      have HS := take_all (P := fun x => x.ad ≠ a) hall hm
      clear hcells hok hm hall
      go_wp2_with fail
      refine hcl.mono ?_
      rintro e w1 ⟨bb, rfl, hbb, T1⟩
      have T2 := T.then_no T1
      clear hcl
      by_cases a1 : m.ad = a
      · obtain rfl := hbb.2 a1
        have HW : Hid (idxE l a = k) := HH a1
        clear HH HS hbb a1
        go_wp2_with fail
        go_ret
        exact ⟨ret_i HW.out.symm, T2⟩
      · have hb : bb = false := by
          cases bb with
          | false => rfl
          | true => exact absurd (hbb.1 rfl) a1
        subst hb
        have hs := HS a1
        clear HH HS hbb
        go_wp2_with fail
        go_roundw
        case rel => exact ⟨k + 1, by omega, by go_num, hs, T2⟩
        case measure => simp [intOf]; omega
    · have hkn : k = n := by omega
      subst hkn
      have hlt' : ¬ (k : Int) < (k : Int) := by omega
      rw [List.take_of_length_le (by rw [hn.out]; exact Nat.le_refl _)] at hall
      have HW : Hid (idxE l a = -1) := idx_miss l a hall
      clear hall
      go_wp2_with fail
      go_ret
      exact ⟨ret_i HW.out.symm, T⟩

set_option maxRecDepth 100000 in
set_option maxHeartbeats 1000000 in
theorem index20 (w : World) (v : Value) (l : List Mb) (h : Ms w v l) (a : Nat) : Calls Try.prog 114 #[.agg #[v], .int .u64 a] w fun e w' => e = .returned (.int .i64 (idxE l a)) ∧ Turn no w w' := by
  have T0 : Turn no w ((w.alloc (.cells #[v] 24)).alloc (.cells #[.int .u64 a] 32)) := ((Turn.refl no w).alloc _).alloc _
  have hp : ((w.alloc (.cells #[v] 24)).alloc (.cells #[.int .u64 a] 32)).cell? ⟨w.heap.size + 1, 0, none⟩ = some (.int .u64 a) := by simp
  have hc := index38 ((w.alloc (.cells #[v] 24)).alloc (.cells #[.int .u64 a] 32)) v l (h.turn_no T0) ⟨w.heap.size + 1, 0, none⟩ a hp
  have hmf : ∀ (fn : Fn) (first cap : Array Value) (w : World), (Instr.makeFunc fn first cap).run Try.prog w = .ok (.func fn first cap) w := fun _ _ _ _ => rfl
  clear h hp
  go_enter Try.func114, Try.ntmps114
  go_wp2_with fail
  refine hc.mono ?_
  rintro e w1 ⟨rfl, T1⟩
  go_wp2_with fail
  go_ret
  exact ⟨rfl, T0.then_no T1⟩

set_option maxRecDepth 100000 in
set_option maxHeartbeats 1000000 in
theorem rindex31 (w : World) (v : Value) (l : List Mb) (h : Ms w v l) (a : Nat) : Calls Try.prog 73 #[.agg #[v], .int .u64 a] w fun e w' => e = .returned (.int .i64 (idxE l a)) ∧ Turn no w w' := by
  have T0 : Turn no w (w.alloc (.cells #[v] 24)) := (Turn.refl no w).alloc _
  obtain ⟨ad, cap, rfl, h⟩ := h
  have hcells := (h.turn_no T0).cells
  have hle : l.length ≤ 9223372036854775807 := by have := h.le; have := h.cap; simp only [maxLen] at this; omega
  clear h
  obtain ⟨n, hn⟩ : ∃ n, Hid (l.length = n) := ⟨_, rfl⟩
  have hn' : l.length = n := hn.out
  rw [hn'] at hle hcells T0 ⊢
  clear hn'
  go_enter Try.func73, Try.ntmps73
  go_wp2_with fail
  go_loop [5] (fun c => ∃ k : Nat, k ≤ n ∧ c = .int .i64 k ∧ (∀ m ∈ l.take k, m.ad ≠ a)) (fun c => n - (intOf c).toNat)
  case atStart => exact ⟨0, by omega, rfl, by simp⟩
  case round =>
    obtain ⟨k, hk, rfl, hall⟩ := hrel
    by_cases hlt : k < n
    · obtain ⟨m, hm⟩ : ∃ m, l[k]? = some m := ⟨l[k]'(by rw [hn.out]; exact hlt), List.getElem?_eq_getElem _⟩
      obtain ⟨b, off, rfl, c0, c1, c2⟩ := hcells k m hm
      have hlt' : (k : Int) < (n : Int) := by omega
      have HH := idx_hit l a k m hall hm
      have HS := take_all (P := fun x => x.ad ≠ a) hall hm
      clear hcells hm hall
      by_cases a1 : m.ad = a
      · have HW : Hid (idxE l a = k) := HH a1
        have a1' : ((m.ad : Int) == (a : Int)) = true := by simp; omega
        clear HH HS a1
        go_wp2_with fail
        go_ret
        exact ⟨ret_i HW.out.symm, T0⟩
      · have hs := HS a1
        have a1' : ((m.ad : Int) == (a : Int)) = false := by simp; omega
        clear HH HS
        go_wp2_with fail
        go_round
        case rel => exact ⟨k + 1, by omega, by go_num, hs⟩
        case measure => simp [intOf]; omega
    · have hkn : k = n := by omega
      subst hkn
      have hlt' : ¬ (k : Int) < (k : Int) := by omega
      rw [List.take_of_length_le (by rw [hn.out]; exact Nat.le_refl _)] at hall
      have HW : Hid (idxE l a = -1) := idx_miss l a hall
      clear hall
      go_wp2_with fail
      go_ret
      exact ⟨ret_i HW.out.symm, T0⟩
end Go.Proofs.Ytbhimedajfkioaa

/- Total, Quorum, Third of the document; same, roomy, kept of the law. -/
namespace Go.Proofs.Ytbhimedajfkioaa
open Go.RowKit
set_option linter.unusedVariables false

theorem sound_pw (l : List Mb) (h : soundE l = 0) : ∀ m ∈ l, m.pw ≤ top := scan_pw l (weigh_ok l (sound_ok l h).1).2.2.1
theorem weigh_pw (l : List Mb) (h : weighE l = 0) : ∀ m ∈ l, m.pw ≤ top := scan_pw l (weigh_ok l h).2.2.1

theorem tot_pos (l : List Mb) (h : weighE l = 0) : 0 < tot l := by
  obtain ⟨h1, _, h3, _⟩ := weigh_ok l h
  cases l with
  | nil => simp at h1
  | cons m r =>
    have := (scan_mem _ 0 h3 m (by simp)).2.1
    simp [tot]
    omega

end Go.Proofs.Ytbhimedajfkioaa

/- Lists of members that are the call's own; roomy, kept. -/
namespace Go.Proofs.Ytbhimedajfkioaa
open Go.RowKit
set_option linter.unusedVariables false

/-- A list of members that fills a block from its head on, and may be written. -/
structure Rw (w : World) (g cap : Nat) (l : List Mb) : Prop where
  le : l.length ≤ cap
  most : cap ≤ maxLen
  ok : ∀ m ∈ l, m.ok
  obj : ∃ cur, w.heap[g]? = some (.cells cur 71 (0, 0)) ∧ cur.size = cap * 3 ∧ ∀ j m, l[j]? = some m → cur[j * 3]? = some (.int .u64 m.ad) ∧ cur[j * 3 + 1]? = some (.int .u64 m.pw) ∧ cur[j * 3 + 2]? = some (.int .i64 m.pr)

theorem Rw.lt {w : World} {g cap : Nat} {l : List Mb} (h : Rw w g cap l) : g < w.heap.size := by
  obtain ⟨cur, ho, _⟩ := h.obj
  exact lt_of_obj ho
theorem Rw.at {w : World} {g cap : Nat} {l : List Mb} (h : Rw w g cap l) : MsAt w (some ⟨g, 0, none⟩) cap l :=
  ⟨h.le, h.most, h.ok, fun j m hm => by
    obtain ⟨cur, ho, _, hc⟩ := h.obj
    obtain ⟨c0, c1, c2⟩ := hc j m hm
    refine ⟨g, 0, rfl, ?_, ?_, ?_⟩
    · rw [cell_of_row _ g (0 + j * 3) cur 71 (0, 0) ho, Nat.zero_add]; exact c0
    · rw [cell_of_row _ g (0 + j * 3 + 1) cur 71 (0, 0) ho, Nat.zero_add]; exact c1
    · rw [cell_of_row _ g (0 + j * 3 + 2) cur 71 (0, 0) ho, Nat.zero_add]; exact c2⟩
theorem Rw.cells {w : World} {g cap : Nat} {l : List Mb} (h : Rw w g cap l) (j : Nat) (m : Mb) (hm : l[j]? = some m) : w.cell? ⟨g, j * 3, none⟩ = some (.int .u64 m.ad) ∧ w.cell? ⟨g, j * 3 + 1, none⟩ = some (.int .u64 m.pw) ∧ w.cell? ⟨g, j * 3 + 2, none⟩ = some (.int .i64 m.pr) := by
  obtain ⟨b, off, e, c0, c1, c2⟩ := h.at.cells j m hm
  cases e
  simp only [Nat.zero_add] at c0 c1 c2
  exact ⟨c0, c1, c2⟩
theorem Rw.frozen {w : World} {g cap : Nat} {l : List Mb} (h : Rw w g cap l) (o : Nat) : w.frozen? ⟨g, o, none⟩ = false := by
  obtain ⟨cur, ho, _⟩ := h.obj
  exact frozen_of_row w g o _ 71 ho
theorem Rw.turn {S : Nat → Prop} {w w' : World} {g cap : Nat} {l : List Mb} (h : Rw w g cap l) (t : Turn S w w') (hn : ¬ S g) : Rw w' g cap l :=
  ⟨h.le, h.most, h.ok, by
    obtain ⟨cur, ho, r⟩ := h.obj
    exact ⟨cur, t.obj ho hn, r⟩⟩
theorem Rw.turn_no {w w' : World} {g cap : Nat} {l : List Mb} (h : Rw w g cap l) (t : Turn no w w') : Rw w' g cap l := h.turn t (fun q => q)
theorem Rw.set {w : World} {g cap : Nat} {l : List Mb} (h : Rw w g cap l) (k : Nat) (m : Mb) (hm : l[k]? = some m) (x : Int) (hx : -9223372036854775808 ≤ x ∧ x < 9223372036854775808) :
    Rw (w.setCell ⟨g, k * 3 + 2, none⟩ (.int .i64 x)) g cap (l.set k { m with pr := x }) := by
  have hk : k < l.length := (List.getElem?_eq_some_iff.1 hm).1
  refine ⟨by simpa using h.le, h.most, fun y hy => ?_, ?_⟩
  · rcases List.mem_or_eq_of_mem_set hy with hy | rfl
    · exact h.ok y hy
    · have := h.ok m (List.mem_of_getElem? hm)
      exact ⟨this.1, this.2.1, hx.1, hx.2⟩
  · obtain ⟨cur, ho, hs, hc⟩ := h.obj
    refine ⟨_, heap_setCell_same w g (k * 3 + 2) cur 71 _ ho, by simpa using hs, fun j y hy => ?_⟩
    rw [List.getElem?_set] at hy
    by_cases hkj : k = j
    · subst hkj
      rw [if_pos rfl, if_pos hk] at hy
      simp at hy
      subst hy
      obtain ⟨c0, c1, c2⟩ := hc k m hm
      have hb : k * 3 + 2 < cur.size := by
        rcases Nat.lt_or_ge (k * 3 + 2) cur.size with q | q
        · exact q
        · rw [Array.getElem?_eq_none q] at c2; cases c2
      refine ⟨?_, ?_, ?_⟩
      · rw [Array.getElem?_setIfInBounds_ne (by omega)]; exact c0
      · rw [Array.getElem?_setIfInBounds_ne (by omega)]; exact c1
      · rw [Array.getElem?_setIfInBounds_self_of_lt hb]
    · rw [if_neg hkj] at hy
      obtain ⟨c0, c1, c2⟩ := hc j y hy
      refine ⟨?_, ?_, ?_⟩
      · rw [Array.getElem?_setIfInBounds_ne (by omega)]; exact c0
      · rw [Array.getElem?_setIfInBounds_ne (by omega)]; exact c1
      · rw [Array.getElem?_setIfInBounds_ne (by omega)]; exact c2
theorem OwnN.rw {w : World} {v : Value} {l : List Mb} {n : Nat} (h : OwnN w 71 3 v n (flat l)) (hn : n = l.length) (h0 : 0 < n) (hok : ∀ m ∈ l, m.ok) : ∃ g cap, v = .slice (some ⟨g, 0, none⟩) n cap ∧ Rw w g cap l := by
  subst hn
  rcases h.2 with ⟨rfl, h1⟩ | ⟨g, cap, cur, rfl, _, hg, h1, h2, h3, h4⟩
  · omega
  · refine ⟨g, cap, rfl, h1, h2, hok, cur, hg, h3, fun j m hm => ?_⟩
    have hj : j < l.length := (List.getElem?_eq_some_iff.1 hm).1
    obtain ⟨c0, c1, c2⟩ := flat_get l j m hm
    have key : ∀ i u, (flat l)[i]? = some u → i < l.length * 3 → cur[i]? = some u := fun i u hu hi => by
      rw [← h4, List.getElem?_take, if_pos hi] at hu
      simpa using hu
    exact ⟨key _ _ c0 (by omega), key _ _ c1 (by omega), key _ _ c2 (by omega)⟩
theorem info44 : (Try.prog.info? 71).map (fun i => (i.zero, i.size, i.bytes)) = some (some (.agg #[.int .u64 0, .int .u64 0, .int .i64 0]), 3, 24) := by kernel_rfl
end Go.Proofs.Ytbhimedajfkioaa

/- roomy, kept, Clone. -/
namespace Go.Proofs.Ytbhimedajfkioaa
open Go.RowKit
set_option linter.unusedVariables false

def mark : List Mb := [⟨777, 0, 0⟩, ⟨778, 0, 0⟩]
theorem mark_ok : ∀ m ∈ mark, m.ok := by
  intro m hm
  simp [mark] at hm
  rcases hm with rfl | rfl <;> simp [Mb.ok]
theorem src_mark (w : World) : Src Try.prog 3 22 (.slice (some ⟨w.heap.size, 0, none⟩) 2 2) 2 (flat mark) (w.alloc (.cells #[.int .u64 777, .int .u64 0, .int .i64 0, .int .u64 778, .int .u64 0, .int .i64 0] 71)) := by
  refine Src.ofSlice _ Try.underlying22 _ _ _ _ (flat_len mark) (fun j u hu => ?_) (flat_one mark)
  rw [Addr.add_lit, cell_of_row _ w.heap.size (0 + j) _ 71 (0, 0) (heap_alloc_new w _)]
  rw [Nat.zero_add]
  simpa [flat, mark, mbC] using hu

set_option maxRecDepth 100000 in
set_option maxHeartbeats 1000000 in
theorem clone33 (w : World) (v : Value) (l : List Mb) (h : Ms w v l) (h0 : 0 < l.length) (hb : l.length ≤ 64) : Calls Try.prog 64 #[v] w fun e w' =>
    ∃ g cap, e = .returned (.slice (some ⟨g, 0, none⟩) l.length cap) ∧ Rw w' g cap l ∧ w.heap.size ≤ g ∧ Turn no w w' := by
  obtain ⟨ad, cp, rfl, h⟩ := h
  have hok := h.ok
  have hs := h.src
  have hS := fun W (T : Turn no w W) => (h.turn_no T).src
  obtain ⟨b, off, rfl⟩ : ∃ b off, ad = some ⟨b, off, none⟩ := by
    obtain ⟨b, off, e, _⟩ := h.cells 0 l[0] (List.getElem?_eq_getElem h0)
    exact ⟨b, off, e⟩
  clear h
  obtain ⟨n, hn⟩ : ∃ n, Hid (l.length = n) := ⟨_, rfl⟩
  have hn' : l.length = n := hn.out
  rw [hn'] at hs hS hb h0 ⊢
  clear hn'
  have hnil := fun W => Lib.run_eql_slice_nil (P := Try.prog) W 22 71 (some ⟨b, off, none⟩) n cp 0 0 Try.underlying22
  go_enter Try.func64, Try.ntmps64
  have OE : OwnN (w.alloc (.cells #[] 71)) 71 3 (.slice (some ⟨w.heap.size, 0, none⟩) 0 0) 0 [] := ⟨rfl, .inr ⟨w.heap.size, 0, #[], rfl, Nat.zero_le _, heap_alloc_new w _, Nat.le_refl _, by simp [maxLen], rfl, rfl⟩⟩
  have TA : Turn no w (w.alloc (.cells #[] 71)) := (Turn.refl no w).alloc _
  have hs1 : Src Try.prog 3 22 (.slice (some ⟨b, off, none⟩) n cp) n (flat l) (w.alloc (.cells #[] 71)) := hS _ TA
  clear hs hS
  go_wp2_with (at_builtin; refine wpList_append_srcN rfl (.tmp 5) (.tmp 6) rfl Try.underlying22 info44 rfl (by decide) (.slice (some ⟨w.heap.size, 0, none⟩) 0 0) 0 [] rfl OE (.slice (some ⟨b, off, none⟩) n cp) n (flat l) rfl hs1 ?_ ?_ ?_)
  · omega
  · simp only [maxLen]; omega
  intro v1 w1 O1 G1
  obtain ⟨g, cap, e3, R⟩ := O1.rw hn.out.symm (by omega) hok
  have f1 : w.heap.size ≤ g := G1.fresh (B := w.heap.size) (fun g q => by cases q; exact Nat.le_refl _) (by simp) g (by rw [e3]; rfl)
  have T1 : Turn no w w1 := (TA.of_no.trans G1.turn (fun _ _ q => q)).mono (fun k hk q => by cases q; exact absurd hk (Nat.lt_irrefl _))
  subst e3
  clear O1 G1 OE hs1 TA
  go_wp2_with fail
  go_ret
  exact ⟨g, cap, rfl, R, f1, T1⟩
end Go.Proofs.Ytbhimedajfkioaa

/- New of the program and of the document. -/
namespace Go.Proofs.Ytbhimedajfkioaa
open Go.RowKit
set_option linter.unusedVariables false

/-- The list with all priorities 0. -/
def zeroed (l : List Mb) : List Mb := l.map fun m => { m with pr := 0 }
/-- Its first k. -/
def zeroedTo (l : List Mb) (k : Nat) : List Mb := zeroed (l.take k) ++ l.drop k
theorem zeroed_len (l : List Mb) : (zeroed l).length = l.length := by simp [zeroed]
theorem zeroedTo_len (l : List Mb) (k : Nat) : (zeroedTo l k).length = l.length := by simp [zeroedTo, zeroed]; omega
theorem zeroedTo_at (l : List Mb) (k : Nat) (m : Mb) (h : l[k]? = some m) : (zeroedTo l k)[k]? = some m := by
  have hk := (List.getElem?_eq_some_iff.1 h).1
  unfold zeroedTo zeroed
  rw [List.getElem?_append_right (by simp; omega)]
  simp [show min k l.length = k by omega, h]
theorem zeroedTo_succ (l : List Mb) (k : Nat) (m : Mb) (h : l[k]? = some m) : (zeroedTo l k).set k { m with pr := 0 } = zeroedTo l (k + 1) := by
  have hk := (List.getElem?_eq_some_iff.1 h).1
  unfold zeroedTo zeroed
  rw [List.set_append_right _ _ (by simp; omega), drop_at l k m h, List.take_add_one, h]
  simp [show k - min k l.length = 0 by omega]
theorem zeroedTo_all (l : List Mb) : zeroedTo l l.length = zeroed l := by simp [zeroedTo]
theorem zeroed_scan (l : List Mb) : ∀ h, scan h (zeroed l) = scan h l := by
  induction l with
  | nil => intro h; rfl
  | cons m r ih => intro h; simp only [zeroed, List.map_cons, scan]; rw [show (r.map fun m => ({ m with pr := 0 } : Mb)) = zeroed r from rfl, ih]
theorem zeroed_tot (l : List Mb) : tot (zeroed l) = tot l := by
  induction l with
  | nil => rfl
  | cons m r ih => simp only [zeroed, List.map_cons, tot]; rw [show (r.map fun m => ({ m with pr := 0 } : Mb)) = zeroed r from rfl, ih]
theorem zeroed_weigh (l : List Mb) : weighE (zeroed l) = weighE l := by
  unfold weighE
  rw [zeroed_len, zeroed_scan, zeroed_tot]
theorem zeroed_sound (l : List Mb) : soundE (zeroed l) = weighE l := by
  by_cases h : weighE l = 0
  · rw [h]
    exact sound_end _ (by rw [zeroed_weigh]; exact h) (fun m hm => by
      obtain ⟨x, _, rfl⟩ := List.mem_map.1 hm
      simp [wideB]
      omega)
  · rw [sound_weigh _ (by rw [zeroed_weigh]; exact h), zeroed_weigh]

/-- What New answers: a council in new memory, or none. -/
def Made (old : Nat) (w : World) (v : Value) (l : List Mb) : Prop := ∃ g cap, v = .slice (some ⟨g, 0, none⟩) l.length cap ∧ Rw w g cap l ∧ old ≤ g
theorem Made.ms {old : Nat} {w : World} {v : Value} {l : List Mb} (h : Made old w v l) : Ms w v l := by
  obtain ⟨g, cap, e, R, _⟩ := h
  exact ⟨_, cap, e, R.at⟩

set_option maxRecDepth 100000 in
set_option maxHeartbeats 1000000 in
theorem new15_no (w : World) (v : Value) (l : List Mb) (h : Ms w v l) (hE : weighE l ≠ 0) : Calls Try.prog 30 #[v] w fun e w' => e = .returned (.tuple #[.agg #[.slice none 0 0], .int .i64 (weighE l)]) ∧ Turn no w w' := by
  have T0 : Turn no w (w.alloc (.cells #[.slice none 0 0] 24)) := (Turn.refl no w).alloc _
  have hw := weigh63 _ v l (h.turn_no T0)
  have hne : (weighE l == 0) = false := by simp; exact hE
  have cb := cell_new1 w (.slice none 0 0) 24
  have fb : (w.alloc (.cells #[.slice none 0 0] 24)).frozen? ⟨w.heap.size, 0, none⟩ = false := frozen_of_row _ _ _ _ _ (heap_alloc_new w _)
  have hlt : w.heap.size < (w.alloc (.cells #[.slice none 0 0] 24)).heap.size := by simp
  clear h
  go_enter Try.func30, Try.ntmps30
  go_wp2_with fail
  refine hw.mono ?_
  rintro e w1 ⟨rfl, T1⟩
  have cb1 := T1.keep cb (fun q => q)
  have fb1 : w1.frozen? ⟨w.heap.size, 0, none⟩ = false := (T1.frozen hlt (fun q => q)).trans fb
  have T := T0.then_no T1
  have c2 := World.cell?_setCell_same w1 _ (.slice none 0 0) cb1
  clear hw cb fb hlt
  go_wp2_with fail
  exact bodyPost_ret (v := .tuple #[.agg #[.slice none 0 0], .int .i64 (weighE l)]) (by simp [results, Try.results30, go_sem, c2]) rfl ⟨rfl, T.setCell (fun q => absurd q (Nat.lt_irrefl _)) _⟩

set_option maxRecDepth 100000 in
set_option maxHeartbeats 1000000 in
theorem new15_yes (w : World) (v : Value) (l : List Mb) (h : Ms w v l) (hE : weighE l = 0) : Calls Try.prog 30 #[v] w fun e w' => ∃ u, e = .returned (.tuple #[.agg #[u], .int .i64 0]) ∧ Made w.heap.size w' u (zeroed l) ∧ Turn no w w' := by
  have T0 : Turn no w (w.alloc (.cells #[.slice none 0 0] 24)) := (Turn.refl no w).alloc _
  have hw := weigh63 _ v l (h.turn_no T0)
  obtain ⟨hn0, hn64, _, _⟩ := weigh_ok l hE
  rw [hE] at hw
  have hcl := fun W (T : Turn no w W) => clone33 W v l (h.turn_no T) (by omega) hn64
  have cb := cell_new1 w (.slice none 0 0) 24
  have fb : (w.alloc (.cells #[.slice none 0 0] 24)).frozen? ⟨w.heap.size, 0, none⟩ = false := frozen_of_row _ _ _ _ _ (heap_alloc_new w _)
  have hlt : w.heap.size < (w.alloc (.cells #[.slice none 0 0] 24)).heap.size := by simp
  clear h
  obtain ⟨n, hn⟩ : ∃ n, Hid (l.length = n) := ⟨_, rfl⟩
  have hn' : l.length = n := hn.out
  rw [hn'] at hn0 hn64 hcl
  clear hn'
  go_enter Try.func30, Try.ntmps30
  go_wp2_with fail
  refine hw.mono ?_
  rintro e w1 ⟨rfl, T1⟩
  have cb1 := T1.keep cb (fun q => q)
  have fb1 : w1.frozen? ⟨w.heap.size, 0, none⟩ = false := (T1.frozen hlt (fun q => q)).trans fb
  have T := T0.then_no T1
  have hcl := hcl w1 T
  have hlt1 : w.heap.size < w1.heap.size := by have := T1.size; omega
  clear hw cb fb hlt
  go_wp2_with fail
  refine hcl.mono ?_
  rintro e w2 ⟨g, cap, rfl, R, hg, T2⟩
  have cb2 := T2.keep cb1 (fun q => q)
  have fb2 : w2.frozen? ⟨w.heap.size, 0, none⟩ = false := (T2.frozen hlt1 (fun q => q)).trans fb1
  have T := T.then_no T2
  have hgw : w.heap.size < g := by omega
  clear hcl cb1 fb1 T1 T0 hg
  go_wp2_with fail
  go_loopw [21] (fun c wr => ∃ k : Nat, k ≤ n ∧ c = .int .i64 k ∧ Rw wr g cap (zeroedTo l k) ∧ Turn (fun b => b = g) w2 wr) (fun c _ => n - (intOf c).toNat)
  case atStart => exact ⟨0, by omega, rfl, by simpa [zeroedTo, zeroed] using R, Turn.refl _ _⟩
  case round =>
    clear R
    obtain ⟨k, hk, rfl, R, TR⟩ := hrel
    by_cases hlt : k < n
    · obtain ⟨m, hm⟩ : ∃ m, l[k]? = some m := ⟨l[k]'(by rw [hn.out]; exact hlt), List.getElem?_eq_getElem _⟩
      have hlt' : (k : Int) < (n : Int) := by omega
      have R2 := R.set k m (zeroedTo_at l k m hm) 0 (by decide)
      rw [zeroedTo_succ l k m hm] at R2
      obtain ⟨c0, c1, c2⟩ := R.cells k m (zeroedTo_at l k m hm)
      have f2 := R.frozen (k * 3 + 2)
      have TR2 := TR.setCell (p := ⟨g, k * 3 + 2, none⟩) (fun _ => rfl) (.int .i64 0)
      clear hm R
      go_wp2_with fail
      go_roundw
      case rel => exact ⟨k + 1, by omega, by go_num, R2, TR2⟩
      case measure => simp [intOf]; omega
    · have hkn : k = n := by omega
      subst hkn
      have hlt' : ¬ (k : Int) < (k : Int) := by omega
      have cb3 := TR.keep cb2 (fun q => by have : w.heap.size = g := q; omega)
      have fb3 : wr.frozen? ⟨w.heap.size, 0, none⟩ = false := (TR.frozen (by have := T2.size; show w.heap.size < _; omega) (fun q => by simp at q; omega)).trans fb2
      have e : zeroedTo l k = zeroed l := by rw [← hn.out]; exact zeroedTo_all l
      rw [e] at R
      have hl : (zeroed l).length = k := by rw [zeroed_len]; exact hn.out
      have Tw : Turn no w wr := (T.of_no.trans TR (fun _ _ q => q)).mono (fun b hb q => by omega)
      have c2 := World.cell?_setCell_same wr _ (.slice (some ⟨g, 0, none⟩) k cap) cb3
      have TS := (Turn.refl (fun b => b = w.heap.size) wr).setCell (p := ⟨w.heap.size, 0, none⟩) (fun _ => rfl) (.slice (some ⟨g, 0, none⟩) k cap)
      have R3 := R.turn TS (fun q => by omega)
      have T4 := Tw.setCell (p := ⟨w.heap.size, 0, none⟩) (fun q => absurd q (Nat.lt_irrefl _)) (.slice (some ⟨g, 0, none⟩) k cap)
      have MD : Made w.heap.size (wr.setCell ⟨w.heap.size, 0, none⟩ (.slice (some ⟨g, 0, none⟩) k cap)) (.slice (some ⟨g, 0, none⟩) k cap) (zeroed l) := ⟨g, cap, by rw [hl], R3, by omega⟩
      clear R R3 e hl Tw TS
      go_wp2_with fail
      exact bodyPost_ret (v := .tuple #[.agg #[.slice (some ⟨g, 0, none⟩) k cap], .int .i64 0]) (by simp [results, Try.results30, go_sem, c2]) rfl ⟨_, rfl, MD, T4⟩
end Go.Proofs.Ytbhimedajfkioaa

/- plain and New of the document. -/
namespace Go.Proofs.Ytbhimedajfkioaa
open Go.RowKit
set_option linter.unusedVariables false

theorem src_mb (w W : World) (m : Mb) (T : Turn no (w.alloc (.cells #[.int .u64 m.ad, .int .u64 m.pw, .int .i64 m.pr] 71)) W) : Src Try.prog 3 22 (.slice (some ⟨w.heap.size, 0, none⟩) 1 1) 1 (flat [m]) W := by
  refine Src.ofSlice _ Try.underlying22 _ _ _ _ (flat_len [m]) (fun j u hu => ?_) (flat_one [m])
  refine T.keep ?_ (fun q => q)
  rw [Addr.add_lit, cell_of_row _ w.heap.size (0 + j) _ 71 (0, 0) (heap_alloc_new w _)]
  rw [Nat.zero_add]
  simpa [flat, mbC] using hu
theorem zeroed_take_succ (l : List Mb) (k : Nat) (m : Mb) (h : l[k]? = some m) : zeroed (l.take (k + 1)) = zeroed (l.take k) ++ [{ m with pr := 0 }] := by
  rw [List.take_add_one, h]
  simp [zeroed]

set_option maxRecDepth 100000 in
set_option maxHeartbeats 1000000 in
theorem plain37 (w : World) (v : Value) (l : List Mb) (h : Ms w v l) (hb : l.length * 24 ≤ 140737488351232) : Calls Try.prog 70 #[v] w fun e w' =>
    ∃ u, e = .returned u ∧ OwnN w' 71 3 u l.length (flat (zeroed l)) ∧ (∀ g, u.ownBlock = some g → w.heap.size ≤ g) ∧ Turn no w w' := by
  obtain ⟨ad, cp, rfl, h⟩ := h
  have hcells := h.cells
  have hle : l.length ≤ 9223372036854775807 := by have := h.le; have := h.cap; simp only [maxLen] at this; omega
  clear h
  obtain ⟨n, hn⟩ : ∃ n, Hid (l.length = n) := ⟨_, rfl⟩
  have hn' : l.length = n := hn.out
  rw [hn'] at hb hle ⊢
  clear hn'
  go_enter Try.func70, Try.ntmps70
  go_wp2_with fail
  go_loopw [3, 4] (fun u c wr => ∃ k : Nat, k ≤ n ∧ c = .int .i64 k ∧ OwnN wr 71 3 u k (flat (zeroed (l.take k))) ∧ (∀ g, u.ownBlock = some g → w.heap.size ≤ g) ∧ Turn no w wr) (fun _ c _ => n - (intOf c).toNat)
  case atStart => exact ⟨0, by omega, rfl, OwnN.nil _ _ _, fun g q => (by cases q), Turn.refl _ _⟩
  case round =>
    obtain ⟨k, hk, rfl, O, hf, T⟩ := hrel
    obtain ⟨ua, uc, rfl, _⟩ := O.form
    by_cases hlt : k < n
    · obtain ⟨m, hm⟩ : ∃ m, l[k]? = some m := ⟨l[k]'(by rw [hn.out]; exact hlt), List.getElem?_eq_getElem _⟩
      obtain ⟨b, off, rfl, c0, c1, c2⟩ := hcells k m hm
      have c0 := T.keep c0 (fun q => q)
      have c1 := T.keep c1 (fun q => q)
      have hlt' : (k : Int) < (n : Int) := by omega
      have HZ : Hid (zeroed (l.take (k + 1)) = zeroed (l.take k) ++ [{ m with pr := 0 }]) := zeroed_take_succ l k m hm
      have hbw : b < w.heap.size := World.block_lt_of_cell? w _ c2
      have hX : ∀ W, Turn (fun g => w.heap.size ≤ g) wr W → ∀ (o : Nat) (u : Value), wr.cell? ⟨b, o, none⟩ = some u → W.cell? ⟨b, o, none⟩ = some u := fun W hW o u hu => hW.keep hu (fun q => by have : w.heap.size ≤ b := q; omega)
      clear hcells hm c2
      go_wp2_with fail
      refine wp_region_held_drew (S := fun W => Turn (fun g => w.heap.size ≤ g) wr W) (by kernel_rfl) (Turn.refl _ wr).drew (fun hHeld => ?_)
      refine' wpAnyH_take (i := 0) (v := .slice ua k uc) rfl (by kernel_rfl) (by kernel_rfl) (by kernel_rfl) (fun _ _ _ h => h) (Or.inl ⟨by kernel_rfl, fun W hW => ?y1⟩) hHeld ?r1
      · go_simp
      refine' wpAnyH_take (i := 1) (v := .slice (some ⟨b, off, none⟩) n cp) rfl (by kernel_rfl) (by kernel_rfl) (by kernel_rfl) (fun _ _ _ h => h) (Or.inl ⟨by kernel_rfl, fun W hW => ?y2⟩) hHeld ?r2
      · go_simp
      refine' wpAnyH_take (i := 2) (v := .int .i64 k) rfl (by kernel_rfl) (by kernel_rfl) (by kernel_rfl) (fun _ _ _ h => h) (Or.inl ⟨by kernel_rfl, fun W hW => ?y3⟩) hHeld ?r3
      · go_simp
      refine' wpAnyH_take (i := 3) (v := .pointer (some ⟨b, off + k * 3, none⟩)) rfl (by kernel_rfl) (by kernel_rfl) (by kernel_rfl) (fun _ _ _ h => h) (Or.inl ⟨by kernel_rfl, fun W hW => ?y4⟩) hHeld ?r4
      · go_simp
      refine' wpAnyH_take (i := 4) (v := .pointer (some ⟨b, off + k * 3, none⟩)) rfl (by kernel_rfl) (by kernel_rfl) (by kernel_rfl) (fun _ _ _ h => h) (Or.inl ⟨by kernel_rfl, fun W hW => ?y5⟩) hHeld ?r5
      · go_simp
      refine' wpAnyH_take (i := 5) (v := .int .u64 m.ad) rfl (by kernel_rfl) (by kernel_rfl) (by kernel_rfl) (fun _ _ _ h => h) (Or.inl ⟨by kernel_rfl, fun W hW => ?y6⟩) hHeld ?r6
      · have c := hX W hW _ _ c0
        go_simp
      refine' wpAnyH_take (i := 6) (v := .slice (some ⟨b, off, none⟩) n cp) rfl (by kernel_rfl) (by kernel_rfl) (by kernel_rfl) (fun _ _ _ h => h) (Or.inl ⟨by kernel_rfl, fun W hW => ?y7⟩) hHeld ?r7
      · go_simp
      refine' wpAnyH_take (i := 7) (v := .int .i64 k) rfl (by kernel_rfl) (by kernel_rfl) (by kernel_rfl) (fun _ _ _ h => h) (Or.inl ⟨by kernel_rfl, fun W hW => ?y8⟩) hHeld ?r8
      · go_simp
      refine' wpAnyH_take (i := 8) (v := .pointer (some ⟨b, off + k * 3, none⟩)) rfl (by kernel_rfl) (by kernel_rfl) (by kernel_rfl) (fun _ _ _ h => h) (Or.inl ⟨by kernel_rfl, fun W hW => ?y9⟩) hHeld ?r9
      · go_simp
      refine' wpAnyH_take (i := 9) (v := .pointer (some ⟨b, off + k * 3 + 1, none⟩)) rfl (by kernel_rfl) (by kernel_rfl) (by kernel_rfl) (fun _ _ _ h => h) (Or.inl ⟨by kernel_rfl, fun W hW => ?y10⟩) hHeld ?r10
      · go_simp
      refine' wpAnyH_take (i := 10) (v := .int .u64 m.pw) rfl (by kernel_rfl) (by kernel_rfl) (by kernel_rfl) (fun _ _ _ h => h) (Or.inl ⟨by kernel_rfl, fun W hW => ?y11⟩) hHeld ?r11
      · have c := hX W hW _ _ c1
        go_simp
      refine' wpAnyH_take (i := 11) (v := .agg #[.int .u64 m.ad, .int .u64 m.pw, .int .i64 0]) rfl (by kernel_rfl) (by kernel_rfl) (by kernel_rfl) (fun _ _ _ h => h) (Or.inl ⟨by kernel_rfl, fun W hW => ?y12⟩) hHeld ?r12
      · go_simp
      refine wpAnyH_ready (rs := [12]) (by kernel_rfl) (by simp) ?_
      refine AllReadyH.cons rfl (fun K hK => ?_) AllReadyH.nil
      go_simp
      have TA : Turn no wr ((wr.alloc (.cells #[.int .u64 m.ad, .int .u64 m.pw, .int .i64 0] 71)).drew) := ((Turn.refl no wr).alloc _).drew
      obtain ⟨v2, w2, hap, O2, G2⟩ := run_append_srcN (P := Try.prog) Try.underlying22 info44 rfl (by decide) 22 _ _ k _ (O.turn_no TA) _ 1 _ (src_mb wr _ { m with pr := 0 } (Turn.refl no _).drew) (by omega) (by simp only [maxLen]; omega)
      have T2 : Turn no w w2 := ((T.then_no TA).of_no.trans G2.turn (fun _ _ q => q)).mono (fun g hg q => by have := hf g q; omega)
      have f2 := G2.fresh hf (by have := T.size; have := TA.size; omega)
      have TW : Turn (fun g => w.heap.size ≤ g) wr w2 := (TA.of_no.trans G2.turn (fun g hg q => hf g q))
      rw [← flat_append, ← HZ.out] at O2
      refine hK.out _ _ (TA.of_no) (fun hHeld => ?_)
      clear hK
      refine wpAnyH_ready (rs := [13]) (by kernel_rfl) (by simp) ?_
      refine AllReadyH.cons rfl (fun K hK => ?_) AllReadyH.nil
      rw [if_pos (by rfl)]
      refine wp_append_run _ _ rfl _ _ rfl rfl hap ?_
      refine hK.out _ _ TW (fun hHeld => ?_)
      clear hK
      refine wpAnyH_ready (rs := [14]) (by kernel_rfl) (by simp) ?_
      refine AllReadyH.cons rfl (fun K hK => ?_) AllReadyH.nil
      obtain ⟨a2, p2, e2, _⟩ := O2.form
      subst e2
      go_simp
      refine hK.out _ _ TW (fun hHeld => ?_)
      clear hK
      refine wpAnyH_done (by kernel_rfl) ?_ _
      clear O hf T hap G2 TW TA hHeld c0 c1
      go_wp2_with fail
      go_roundw
      case rel => exact ⟨k + 1, by omega, by go_num, O2, f2, T2⟩
      case measure => simp [intOf]; omega
    · have hkn : k = n := by omega
      subst hkn
      have hlt' : ¬ (k : Int) < (k : Int) := by omega
      rw [List.take_of_length_le (by rw [hn.out]; exact Nat.le_refl _)] at O
      go_wp2_with fail
      go_ret
      exact ⟨_, rfl, O, hf, T⟩

theorem OwnN.ms {w : World} {v : Value} {l : List Mb} {n : Nat} (h : OwnN w 71 3 v n (flat l)) (hn : n = l.length) (hok : ∀ m ∈ l, m.ok) : Ms w v l := by
  by_cases h0 : 0 < n
  · obtain ⟨g, cap, e, R⟩ := h.rw hn h0 hok
    exact ⟨_, cap, by rw [e, hn], R.at⟩
  · have hl : l = [] := List.eq_nil_of_length_eq_zero (by omega)
    obtain ⟨a, cap, e, _, h1, h2, h3⟩ := h.form
    subst hl
    exact ⟨a, cap, by rw [e, hn], by simp, h3, hok, fun j m hm => by simp at hm⟩
theorem zeroed_ok {l : List Mb} (h : ∀ m ∈ l, m.ok) : ∀ m ∈ zeroed l, m.ok := fun m hm => by
  obtain ⟨x, hx, rfl⟩ := List.mem_map.1 hm
  have := h x hx
  exact ⟨this.1, this.2.1, by simp, by simp⟩
theorem Ms.ok {w : World} {v : Value} {l : List Mb} (h : Ms w v l) : ∀ m ∈ l, m.ok := by
  obtain ⟨_, _, _, h⟩ := h
  exact h.ok
/-- What is known of a block of one cell that the call has made. -/
structure Bx (w : World) (g : Nat) (u : Value) : Prop where
  c : w.cell? ⟨g, 0, none⟩ = some u
  f : w.frozen? ⟨g, 0, none⟩ = false
theorem Bx.new (w : World) (v : Value) (t : TypeId) : Bx (w.alloc (.cells #[v] t)) w.heap.size v := ⟨cell_new1 w v t, frozen_of_row _ _ _ _ _ (heap_alloc_new w _)⟩
theorem Bx.lt {w : World} {g : Nat} {u : Value} (h : Bx w g u) : g < w.heap.size := World.block_lt_of_cell? w _ h.c
theorem Bx.turn {S : Nat → Prop} {w w' : World} {g : Nat} {u : Value} (h : Bx w g u) (t : Turn S w w') (hn : ¬ S g) : Bx w' g u := ⟨t.keep h.c hn, (t.frozen h.lt hn).trans h.f⟩
theorem Bx.turn_no {w w' : World} {g : Nat} {u : Value} (h : Bx w g u) (t : Turn no w w') : Bx w' g u := h.turn t (fun q => q)
theorem Bx.set {w : World} {g : Nat} {u : Value} (h : Bx w g u) (x : Value) : (w.setCell ⟨g, 0, none⟩ x).cell? ⟨g, 0, none⟩ = some x := World.cell?_setCell_same w _ x h.c
theorem Turn.set0 {S : Nat → Prop} {a w : World} (h : Turn S a w) {g : Nat} (hg : a.heap.size ≤ g) (u : Value) : Turn S a (w.setCell ⟨g, 0, none⟩ u) := h.setCell (p := ⟨g, 0, none⟩) (fun q => absurd q (Nat.not_lt.2 hg)) u
theorem Made.turn {S : Nat → Prop} {old : Nat} {w w' : World} {v : Value} {l : List Mb} (h : Made old w v l) (t : Turn S w w') (hn : ∀ g, v.ownBlock = some g → ¬ S g) : Made old w' v l := by
  obtain ⟨g, cap, e, R, ho⟩ := h
  exact ⟨g, cap, e, R.turn t (hn g (by rw [e]; rfl)), ho⟩

set_option maxRecDepth 100000 in
set_option maxHeartbeats 1000000 in
theorem rnew16_no (w : World) (v : Value) (l : List Mb) (h : Ms w v l) (hb : l.length * 24 ≤ 140737488351232) (hE : weighE l ≠ 0) : Calls Try.prog 36 #[v] w fun e w' => e = .returned (.tuple #[.agg #[.slice none 0 0], .int .i64 (weighE l)]) ∧ Turn no w w' := by
  have T0 : Turn no w (w.alloc (.cells #[.slice none 0 0] 24)) := (Turn.refl no w).alloc _
  have B0 := Bx.new w (.slice none 0 0) 24
  have hp := plain37 _ v l (h.turn_no T0) hb
  have hok := zeroed_ok h.ok
  have hzl := zeroed_len l
  have hzs := zeroed_sound l
  have hne : (weighE l == 0) = false := by simp; exact hE
  clear h
  go_enter Try.func36, Try.ntmps36
  go_wp2_with fail
  refine hp.mono ?_
  rintro e w1 ⟨u, rfl, O, hf, T1⟩
  have M1 := O.ms hzl.symm hok
  have B1 := B0.turn_no T1
  have hT : Turn no w w1 := T0.then_no T1
  have hso : ∀ W, Turn no w1 W → _ := fun W T => rsound24 W u _ (M1.turn_no T)
  rw [hzs] at hso
  obtain ⟨ua, uc, rfl, _⟩ := O.form
  clear hp hzs M1 O B0 hzl
  have T2 : Turn no w1 (w1.alloc (.cells #[.slice ua l.length uc] 24)) := (Turn.refl no w1).alloc _
  have hso := hso _ T2
  obtain ⟨n, hn⟩ : ∃ n, Hid (l.length = n) := ⟨_, rfl⟩
  have hn' : l.length = n := hn.out
  rw [hn'] at hso T2 ⊢
  clear hn'
  go_wp2_with fail
  refine hso.mono ?_
  rintro e w3 ⟨rfl, T3⟩
  have B3 := (B1.turn_no T2).turn_no T3
  have T := (hT.then_no T2).then_no T3
  have c4 := B3.c
  have f4 := B3.f
  have c5 := B3.set (.slice none 0 0)
  clear hso B1 B3
  go_wp2_with fail
  exact bodyPost_ret (v := .tuple #[.agg #[.slice none 0 0], .int .i64 (weighE l)]) (by simp [results, Try.results36, go_sem, c5]) rfl ⟨rfl, T.set0 (Nat.le_refl _) _⟩

set_option maxRecDepth 100000 in
set_option maxHeartbeats 1000000 in
theorem rnew16_yes (w : World) (v : Value) (l : List Mb) (h : Ms w v l) (hE : weighE l = 0) : Calls Try.prog 36 #[v] w fun e w' => ∃ u, e = .returned (.tuple #[.agg #[u], .int .i64 0]) ∧ Made w.heap.size w' u (zeroed l) ∧ Turn no w w' := by
  have T0 : Turn no w (w.alloc (.cells #[.slice none 0 0] 24)) := (Turn.refl no w).alloc _
  have B0 := Bx.new w (.slice none 0 0) 24
  obtain ⟨hn0, hn64, _, _⟩ := weigh_ok l hE
  have hp := plain37 _ v l (h.turn_no T0) (by omega)
  have hok := zeroed_ok h.ok
  have hzl := zeroed_len l
  have hzs := zeroed_sound l
  rw [hE] at hzs
  have hs0 : w.heap.size < (w.alloc (.cells #[.slice none 0 0] 24)).heap.size := by simp
  clear h
  obtain ⟨n, hn⟩ : ∃ n, Hid (l.length = n) := ⟨_, rfl⟩
  have hn' : l.length = n := hn.out
  rw [hn'] at hp hn0 hzl
  clear hn'
  go_enter Try.func36, Try.ntmps36
  go_wp2_with fail
  refine hp.mono ?_
  rintro e w1 ⟨u, rfl, O, hf, T1⟩
  obtain ⟨g, cap, rfl, R⟩ := O.rw hzl.symm (by omega) hok
  have hg : w.heap.size < g := by have := hf g rfl; omega
  have B1 := B0.turn_no T1
  have hT : Turn no w w1 := T0.then_no T1
  have T2 : Turn no w1 (w1.alloc (.cells #[.slice (some ⟨g, 0, none⟩) n cap] 24)) := (Turn.refl no w1).alloc _
  have BB := Bx.new w1 (.slice (some ⟨g, 0, none⟩) n cap) 24
  have hso := rsound24 _ (.slice (some ⟨g, 0, none⟩) n cap) _ (⟨_, cap, by rw [hzl], (R.turn_no T2).at⟩ : Ms _ _ (zeroed l))
  rw [hzs] at hso
  have hw1 : w.heap.size < w1.heap.size := B1.lt
  clear hp hzs O B0 hf
  go_wp2_with fail
  refine hso.mono ?_
  rintro e w3 ⟨rfl, T3⟩
  have B3 := (B1.turn_no T2).turn_no T3
  have BB3 := BB.turn_no T3
  have T := (hT.then_no T2).then_no T3
  have c4 := B3.c
  have f4 := B3.f
  have c6 := BB3.c
  have c5 := B3.set (.slice (some ⟨g, 0, none⟩) n cap)
  have R3 := ((R.turn_no T2).turn_no T3).turn ((Turn.refl (fun b => b = w.heap.size) w3).setCell (p := ⟨w.heap.size, 0, none⟩) (fun _ => rfl) (.slice (some ⟨g, 0, none⟩) n cap)) (fun q => by omega)
  have MD : Made w.heap.size (w3.setCell ⟨w.heap.size, 0, none⟩ (.slice (some ⟨g, 0, none⟩) n cap)) (.slice (some ⟨g, 0, none⟩) n cap) (zeroed l) := ⟨g, cap, by rw [hzl], R3, by omega⟩
  clear hso B1 B3 BB BB3 R R3
  go_wp2_with fail
  exact bodyPost_ret (v := .tuple #[.agg #[.slice (some ⟨g, 0, none⟩) n cap], .int .i64 0]) (by simp [results, Try.results36, go_sem, c5]) rfl ⟨_, rfl, MD, T.set0 (Nat.le_refl _) _⟩
end Go.Proofs.Ytbhimedajfkioaa
