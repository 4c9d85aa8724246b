/- Index of the program and of the document. -/
import Derived.Test.YtcjijofckjgikaaDoorC2
namespace Go.Proofs.YtcjijofckjgikaaDoor
open Go.RowKit
set_option linter.unusedVariables false

/-- The first place of an address, or -1. -/
def idxE : List Mb → Nat → Int
  | [], _ => -1
  | m :: r, a => if m.ad = a then 0 else if idxE r a < 0 then -1 else idxE r a + 1
theorem idx_miss (l : List Mb) (a : Nat) (h : ∀ m ∈ l, m.ad ≠ a) : idxE l a = -1 := by
  induction l with
  | nil => rfl
  | cons m r ih =>
    rw [idxE, if_neg (h m (by simp)), ih (fun x hx => h x (by simp [hx]))]
    rfl
theorem idx_hit (l : List Mb) (a k : Nat) (m : Mb) (h : ∀ x ∈ l.take k, x.ad ≠ a) (hm : l[k]? = some m) (ha : m.ad = a) : idxE l a = k := by
  induction l generalizing k with
  | nil => simp at hm
  | cons x r ih =>
    cases k with
    | zero =>
      simp at hm
      subst hm
      rw [idxE, if_pos ha]
      rfl
    | succ k =>
      rw [idxE, if_neg (h x (by simp)), ih k (fun y hy => h y (by simp [hy])) (by simpa using hm), if_neg (by omega)]
      omega

set_option maxRecDepth 100000 in
set_option maxHeartbeats 1000000 in
theorem mine39 (w : World) (m : Mb) (p : Addr) (a : Nat) (hp : w.cell? p = some (.int .u64 a)) : Calls Tryd.prog 40 #[.agg #[.int .u64 m.ad, .int .u64 m.pw, .int .i64 m.pr], .pointer (some p)] w fun e w' => ∃ bb : Bool, e = .returned (.bool bb) ∧ (bb = true ↔ m.ad = a) ∧ Turn no w w' := by
  have T0 : Turn no w (w.alloc (.cells #[.int .u64 m.ad, .int .u64 m.pw, .int .i64 m.pr] 70)) := (Turn.refl no w).alloc _
  have hp1 := T0.keep hp (fun q => q)
  go_enter Tryd.func40, Tryd.ntmps40
  go_wp2_with fail
  go_ret
  exact ⟨_, rfl, by simp; omega, T0⟩
set_option maxRecDepth 100000 in
set_option maxHeartbeats 1000000 in
theorem index38 (w : World) (v : Value) (l : List Mb) (h : Ms w v l) (p : Addr) (a : Nat) (hp : w.cell? p = some (.int .u64 a)) : Calls Tryd.prog 39 #[v, .func (.func 40) #[] #[.pointer (some p)]] w fun e w' => e = .returned (.int .i64 (idxE l a)) ∧ Turn no w w' := by
  obtain ⟨ad, cap, rfl, h⟩ := h
  have hcells := h.cells
  have hok := h.ok
  have hle : l.length ≤ 9223372036854775807 := by have := h.le; have := h.cap; simp only [maxLen] at this; omega
  clear h
  obtain ⟨n, hn⟩ : ∃ n, Hid (l.length = n) := ⟨_, rfl⟩
  have hn' : l.length = n := hn.out
  rw [hn'] at hle ⊢
  clear hn'
  go_enter Tryd.func39, Tryd.ntmps39
  go_wp2_with fail
  go_loopw [8] (fun c wr => ∃ k : Nat, k ≤ n ∧ c = .int .i64 k ∧ (∀ m ∈ l.take k, m.ad ≠ a) ∧ Turn no w wr) (fun c _ => n - (intOf c).toNat)
  case atStart => exact ⟨0, by omega, rfl, by simp, Turn.refl _ _⟩
  case round =>
    obtain ⟨k, hk, rfl, hall, T⟩ := hrel
    by_cases hlt : k < n
    · obtain ⟨m, hm⟩ : ∃ m, l[k]? = some m := ⟨l[k]'(by rw [hn.out]; exact hlt), List.getElem?_eq_getElem _⟩
      obtain ⟨b, off, rfl, c0, c1, c2⟩ := hcells k m hm
      have c0 := T.keep c0 (fun q => q)
      have c1 := T.keep c1 (fun q => q)
      have c2 := T.keep c2 (fun q => q)
      have hlt' : (k : Int) < (n : Int) := by omega
      have hcl := mine39 wr m p a (T.keep hp (fun q => q))
      have HH := idx_hit l a k m hall hm
      have HS := take_all (P := fun x => x.ad ≠ a) hall hm
      clear hcells hok hm hall
      go_wp2_with fail
      refine hcl.mono ?_
      rintro e w1 ⟨bb, rfl, hbb, T1⟩
      have T2 := T.then_no T1
      clear hcl
      by_cases a1 : m.ad = a
      · obtain rfl := hbb.2 a1
        have HW : Hid (idxE l a = k) := HH a1
        clear HH HS hbb a1
        go_wp2_with fail
        go_ret
        exact ⟨ret_i HW.out.symm, T2⟩
      · have hb : bb = false := by
          cases bb with
          | false => rfl
          | true => exact absurd (hbb.1 rfl) a1
        subst hb
        have hs := HS a1
        clear HH HS hbb
        go_wp2_with fail
        go_roundw
        case rel => exact ⟨k + 1, by omega, by go_num, hs, T2⟩
        case measure => simp [intOf]; omega
    · have hkn : k = n := by omega
      subst hkn
      have hlt' : ¬ (k : Int) < (k : Int) := by omega
      rw [List.take_of_length_le (by rw [hn.out]; exact Nat.le_refl _)] at hall
      have HW : Hid (idxE l a = -1) := idx_miss l a hall
      clear hall
      go_wp2_with fail
      go_ret
      exact ⟨ret_i HW.out.symm, T⟩

set_option maxRecDepth 100000 in
set_option maxHeartbeats 1000000 in
theorem index20 (w : World) (v : Value) (l : List Mb) (h : Ms w v l) (a : Nat) : Calls Tryd.prog 20 #[.agg #[v], .int .u64 a] w fun e w' => e = .returned (.int .i64 (idxE l a)) ∧ Turn no w w' := by
  have T0 : Turn no w ((w.alloc (.cells #[v] 34)).alloc (.cells #[.int .u64 a] 25)) := ((Turn.refl no w).alloc _).alloc _
  have hp : ((w.alloc (.cells #[v] 34)).alloc (.cells #[.int .u64 a] 25)).cell? ⟨w.heap.size + 1, 0, none⟩ = some (.int .u64 a) := by simp
  have hc := index38 ((w.alloc (.cells #[v] 34)).alloc (.cells #[.int .u64 a] 25)) v l (h.turn_no T0) ⟨w.heap.size + 1, 0, none⟩ a hp
  have hmf : ∀ (fn : Fn) (first cap : Array Value) (w : World), (Instr.makeFunc fn first cap).run Tryd.prog w = .ok (.func fn first cap) w := fun _ _ _ _ => rfl
  clear h hp
  go_enter Tryd.func20, Tryd.ntmps20
  go_wp2_with fail
  refine hc.mono ?_
  rintro e w1 ⟨rfl, T1⟩
  go_wp2_with fail
  go_ret
  exact ⟨rfl, T0.then_no T1⟩

end Go.Proofs.YtcjijofckjgikaaDoor
