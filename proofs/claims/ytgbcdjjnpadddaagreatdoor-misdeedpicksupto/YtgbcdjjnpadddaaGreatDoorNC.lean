/- Texts in one. -/
import Derived.WalkKit
import Derived.Test.YtgbcdjjnpadddaaGreatDoorBaseN
import Derived.Test.YtgbcdjjnpadddaaGreatDoorRows
/- Members, totals, what is wrong with a council: plain. -/
namespace Go.Proofs.YtgbcdjjnpadddaaGreatDoor
open Go.RowKit
set_option linter.unusedVariables false

structure Mb where
  ad : Nat
  pw : Nat
  pr : Int

def Mb.ok (m : Mb) : Prop := m.ad < 18446744073709551616 ∧ m.pw < 18446744073709551616 ∧ -9223372036854775808 ≤ m.pr ∧ m.pr < 9223372036854775808

/-- A member's cells. -/
def mbC (m : Mb) : List Value := [.int .u64 m.ad, .int .u64 m.pw, .int .i64 m.pr]

def mb0 : Mb := ⟨0, 0, 0⟩

def top : Nat := 1152921504606846975

def scan : Nat → List Mb → Int
  | _, [] => 0
  | h, m :: r => if m.ad = 0 then 85 else if m.ad ≤ h then 52 else if m.pw = 0 ∨ top < m.pw then 50 else scan m.ad r
def tot : List Mb → Nat
  | [] => 0
  | m :: r => m.pw + tot r
def weighE (l : List Mb) : Int := if l.length = 0 then 53 else if 64 < l.length then 4 else if scan 0 l ≠ 0 then scan 0 l else if top < tot l then 51 else 0
def weighT (l : List Mb) : Nat := if weighE l = 0 then tot l else 0
theorem weighT_ok (l : List Mb) (h : weighE l = 0) : weighT l = tot l := by rw [weighT, if_pos h]
theorem weighT_no (l : List Mb) {e : Int} (h : weighE l = e) (he : e ≠ 0) : (0 : Int) = (weighT l : Int) := by rw [weighT, if_neg (by rw [h]; exact he)]; rfl
theorem ret2_eq {a b c d : Int} (h1 : a = b) (h2 : c = d) : Ending.returned (.tuple #[.int .u64 a, .int .i64 c]) = Ending.returned (.tuple #[.int .u64 b, .int .i64 d]) := by rw [h1, h2]
theorem ret_i {k : IntKind} {a b : Int} (h : a = b) : Ending.returned (.int k a) = Ending.returned (.int k b) := by rw [h]
def wideB (t : Nat) (m : Mb) : Bool := decide (m.pr < -(7 * (t : Int))) || decide (7 * (t : Int) < m.pr)
def soundE (l : List Mb) : Int := if weighE l ≠ 0 then weighE l else if l.any (wideB (tot l)) then 2 else 0

def soundT (l : List Mb) : Nat := if soundE l = 0 then tot l else 0
theorem soundT_ok (l : List Mb) (h : soundE l = 0) : soundT l = tot l := by rw [soundT, if_pos h]
theorem soundT_no (l : List Mb) {e : Int} (h : soundE l = e) (he : e ≠ 0) : (0 : Int) = (soundT l : Int) := by rw [soundT, if_neg (by rw [h]; exact he)]; rfl
theorem sound_weigh (l : List Mb) (h : weighE l ≠ 0) : soundE l = weighE l := by rw [soundE, if_pos h]
theorem sound_wide (l : List Mb) (h : weighE l = 0) (m : Mb) (hm : m ∈ l) (hw : wideB (tot l) m = true) : soundE l = 2 := by
  rw [soundE, if_neg (by omega), if_pos (List.any_eq_true.2 ⟨m, hm, hw⟩)]
theorem sound_end (l : List Mb) (h : weighE l = 0) (hw : ∀ m ∈ l, wideB (tot l) m = false) : soundE l = 0 := by
  rw [soundE, if_neg (by omega), if_neg (by
    intro q
    obtain ⟨m, hm, q⟩ := List.any_eq_true.1 q
    rw [hw m hm] at q
    cases q)]

/-- The address ahead of place k. -/
def prev (l : List Mb) : Nat → Nat
  | 0 => 0
  | k + 1 => (l.getD k mb0).ad

theorem tot_append (a b : List Mb) : tot (a ++ b) = tot a + tot b := by
  induction a with
  | nil => simp [tot]
  | cons m a ih => simp [tot, ih]; omega
theorem tot_take_succ (l : List Mb) (k : Nat) (m : Mb) (h : l[k]? = some m) : tot (l.take (k + 1)) = tot (l.take k) + m.pw := by
  rw [List.take_add_one, h, tot_append]
  simp [tot]
theorem tot_take_le (l : List Mb) (k : Nat) : tot (l.take k) ≤ tot l := by
  have := tot_append (l.take k) (l.drop k)
  rw [List.take_append_drop] at this
  omega
theorem prev_succ (l : List Mb) (k : Nat) (m : Mb) (h : l[k]? = some m) : prev l (k + 1) = m.ad := by
  simp [prev, List.getD, h]
theorem drop_at (l : List Mb) (k : Nat) (m : Mb) (h : l[k]? = some m) : l.drop k = m :: l.drop (k + 1) := by
  obtain ⟨hk, e⟩ := List.getElem?_eq_some_iff.1 h
  rw [List.drop_eq_getElem_cons hk, e]
theorem scan_step (l : List Mb) (k : Nat) (m : Mb) (h : l[k]? = some m) (hs : scan 0 l = scan (prev l k) (l.drop k)) (h1 : ¬ m.ad = 0) (h2 : ¬ m.ad ≤ prev l k) (h3 : ¬ m.pw = 0) (h4 : ¬ top < m.pw) :
    scan 0 l = scan (prev l (k + 1)) (l.drop (k + 1)) := by
  rw [hs, drop_at l k m h, scan, if_neg h1, if_neg h2, if_neg (by omega), prev_succ l k m h]
theorem scan_85 (l : List Mb) (k : Nat) (m : Mb) (h : l[k]? = some m) (hs : scan 0 l = scan (prev l k) (l.drop k)) (h1 : m.ad = 0) : scan 0 l = 85 := by
  rw [hs, drop_at l k m h, scan, if_pos h1]
theorem scan_52 (l : List Mb) (k : Nat) (m : Mb) (h : l[k]? = some m) (hs : scan 0 l = scan (prev l k) (l.drop k)) (h1 : ¬ m.ad = 0) (h2 : m.ad ≤ prev l k) : scan 0 l = 52 := by
  rw [hs, drop_at l k m h, scan, if_neg h1, if_pos h2]
theorem scan_50 (l : List Mb) (k : Nat) (m : Mb) (h : l[k]? = some m) (hs : scan 0 l = scan (prev l k) (l.drop k)) (h1 : ¬ m.ad = 0) (h2 : ¬ m.ad ≤ prev l k) (h3 : m.pw = 0 ∨ top < m.pw) : scan 0 l = 50 := by
  rw [hs, drop_at l k m h, scan, if_neg h1, if_neg h2, if_pos h3]
theorem scan_end (l : List Mb) (hs : scan 0 l = scan (prev l l.length) (l.drop l.length)) : scan 0 l = 0 := by
  rw [hs, List.drop_length, scan]
theorem weigh_scan (l : List Mb) (h1 : l.length ≠ 0) (h2 : ¬ 64 < l.length) (h : scan 0 l ≠ 0) : weighE l = scan 0 l := by
  rw [weighE, if_neg h1, if_neg h2, if_pos h]
theorem weigh_end (l : List Mb) (h1 : l.length ≠ 0) (h2 : ¬ 64 < l.length) (h : scan 0 l = 0) : weighE l = if top < tot l then 51 else 0 := by
  rw [weighE, if_neg h1, if_neg h2, if_neg (by omega)]
theorem weigh_ok (l : List Mb) (h : weighE l = 0) : l.length ≠ 0 ∧ l.length ≤ 64 ∧ scan 0 l = 0 ∧ tot l ≤ top := by
  unfold weighE at h
  split at h
  · omega
  split at h
  · omega
  split at h
  · omega
  split at h
  · omega
  rename_i a b c d
  exact ⟨a, by omega, Decidable.not_not.1 c, by omega⟩
theorem scan_mem (l : List Mb) : ∀ h, scan h l = 0 → ∀ m ∈ l, 0 < m.ad ∧ 0 < m.pw ∧ m.pw ≤ top := by
  induction l with
  | nil => intro h hs m hm; cases hm
  | cons x r ih =>
    intro h hs m hm
    rw [scan] at hs
    split at hs
    · omega
    split at hs
    · omega
    split at hs
    · omega
    rcases List.mem_cons.1 hm with rfl | hm
    · omega
    · exact ih _ hs m hm
theorem sound_ok (l : List Mb) (h : soundE l = 0) : weighE l = 0 ∧ ∀ m ∈ l, -(7 * (tot l : Int)) ≤ m.pr ∧ m.pr ≤ 7 * (tot l : Int) := by
  unfold soundE at h
  split at h
  · rename_i hw; exact absurd h hw
  · rename_i hw
    refine ⟨Decidable.not_not.1 hw, fun m hm => ?_⟩
    split at h
    · omega
    · rename_i ha
      have ha' : ¬ wideB (tot l) m = true := fun q => ha (List.any_eq_true.2 ⟨m, hm, q⟩)
      simp [wideB] at ha'
      omega
end Go.Proofs.YtgbcdjjnpadddaaGreatDoor



/- A list of members in memory; weigh. -/
namespace Go.Proofs.YtgbcdjjnpadddaaGreatDoor
open Go.RowKit
set_option linter.unusedVariables false

/-- A list of members, wherever it lies. -/
structure MsAt (w : World) (a : Option Addr) (cap : Nat) (l : List Mb) : Prop where
  le : l.length ≤ cap
  cap : cap ≤ maxLen
  ok : ∀ m ∈ l, m.ok
  cells : ∀ j m, l[j]? = some m → ∃ b off, a = some ⟨b, off, none⟩ ∧ w.cell? ⟨b, off + j * 3, none⟩ = some (.int .u64 m.ad) ∧ w.cell? ⟨b, off + j * 3 + 1, none⟩ = some (.int .u64 m.pw) ∧ w.cell? ⟨b, off + j * 3 + 2, none⟩ = some (.int .i64 m.pr)
def Ms (w : World) (v : Value) (l : List Mb) : Prop := ∃ a cap, v = .slice a l.length cap ∧ MsAt w a cap l

theorem MsAt.turn {S : Nat → Prop} {w w' : World} {a : Option Addr} {cap : Nat} {l : List Mb} (h : MsAt w a cap l) (t : Turn S w w') (hn : ∀ x, a = some x → ¬ S x.block) : MsAt w' a cap l :=
  ⟨h.le, h.cap, h.ok, fun j m hj => by
    obtain ⟨b, off, e, c0, c1, c2⟩ := h.cells j m hj
    have := hn _ e
    exact ⟨b, off, e, t.keep c0 this, t.keep c1 this, t.keep c2 this⟩⟩
theorem MsAt.turn_no {w w' : World} {a : Option Addr} {cap : Nat} {l : List Mb} (h : MsAt w a cap l) (t : Turn no w w') : MsAt w' a cap l := h.turn t (fun _ _ q => q)
theorem Ms.turn_no {w w' : World} {v : Value} {l : List Mb} (h : Ms w v l) (t : Turn no w w') : Ms w' v l := by
  obtain ⟨a, cap, e, h⟩ := h
  exact ⟨a, cap, e, h.turn_no t⟩

end Go.Proofs.YtgbcdjjnpadddaaGreatDoor



/- Index of the program and of the document. -/
namespace Go.Proofs.YtgbcdjjnpadddaaGreatDoor
open Go.RowKit
set_option linter.unusedVariables false

theorem take_all {P : Mb → Prop} {l : List Mb} {k : Nat} {m : Mb} (h : ∀ x ∈ l.take k, P x) (hm : l[k]? = some m) (hp : P m) : ∀ x ∈ l.take (k + 1), P x := by
  intro x hx
  rw [List.take_add_one, hm] at hx
  rcases List.mem_append.1 hx with hx | hx
  · exact h x hx
  · simp at hx
    subst hx
    exact hp

/-- The first place of an address, or -1. -/
def idxE : List Mb → Nat → Int
  | [], _ => -1
  | m :: r, a => if m.ad = a then 0 else if idxE r a < 0 then -1 else idxE r a + 1
theorem idx_miss (l : List Mb) (a : Nat) (h : ∀ m ∈ l, m.ad ≠ a) : idxE l a = -1 := by
  induction l with
  | nil => rfl
  | cons m r ih =>
    rw [idxE, if_neg (h m (by simp)), ih (fun x hx => h x (by simp [hx]))]
    rfl
theorem idx_hit (l : List Mb) (a k : Nat) (m : Mb) (h : ∀ x ∈ l.take k, x.ad ≠ a) (hm : l[k]? = some m) (ha : m.ad = a) : idxE l a = k := by
  induction l generalizing k with
  | nil => simp at hm
  | cons x r ih =>
    cases k with
    | zero =>
      simp at hm
      subst hm
      rw [idxE, if_pos ha]
      rfl
    | succ k =>
      rw [idxE, if_neg (h x (by simp)), ih k (fun y hy => h y (by simp [hy])) (by simpa using hm), if_neg (by omega)]
      omega

set_option maxRecDepth 100000 in
set_option maxHeartbeats 1000000 in
theorem mine39 (w : World) (m : Mb) (p : Addr) (a : Nat) (hp : w.cell? p = some (.int .u64 a)) : Calls Tryz.prog 65 #[.agg #[.int .u64 m.ad, .int .u64 m.pw, .int .i64 m.pr], .pointer (some p)] w fun e w' => ∃ bb : Bool, e = .returned (.bool bb) ∧ (bb = true ↔ m.ad = a) ∧ Turn no w w' := by
  have T0 : Turn no w (w.alloc (.cells #[.int .u64 m.ad, .int .u64 m.pw, .int .i64 m.pr] 162)) := (Turn.refl no w).alloc _
  have hp1 := T0.keep hp (fun q => q)
  go_enter Tryz.func65, Tryz.ntmps65
  go_wp2_with fail
  go_ret
  exact ⟨_, rfl, by simp; omega, T0⟩
set_option maxRecDepth 100000 in
set_option maxHeartbeats 1000000 in
theorem index38 (w : World) (v : Value) (l : List Mb) (h : Ms w v l) (p : Addr) (a : Nat) (hp : w.cell? p = some (.int .u64 a)) : Calls Tryz.prog 64 #[v, .func (.func 65) #[] #[.pointer (some p)]] w fun e w' => e = .returned (.int .i64 (idxE l a)) ∧ Turn no w w' := by
  obtain ⟨ad, cap, rfl, h⟩ := h
  have hcells := h.cells
  have hok := h.ok
  have hle : l.length ≤ 9223372036854775807 := by have := h.le; have := h.cap; simp only [maxLen] at this; omega
  clear h
  obtain ⟨n, hn⟩ : ∃ n, Hid (l.length = n) := ⟨_, rfl⟩
  have hn' : l.length = n := hn.out
  rw [hn'] at hle ⊢
  clear hn'
  go_enter Tryz.func64, Tryz.ntmps64
  go_wp2_with fail
  go_loopw [8] (fun c wr => ∃ k : Nat, k ≤ n ∧ c = .int .i64 k ∧ (∀ m ∈ l.take k, m.ad ≠ a) ∧ Turn no w wr) (fun c _ => n - (intOf c).toNat)
  case atStart => exact ⟨0, by omega, rfl, by simp, Turn.refl _ _⟩
  case round =>
    obtain ⟨k, hk, rfl, hall, T⟩ := hrel
    by_cases hlt : k < n
    · obtain ⟨m, hm⟩ : ∃ m, l[k]? = some m := ⟨l[k]'(by rw [hn.out]; exact hlt), List.getElem?_eq_getElem _⟩
      obtain ⟨b, off, rfl, c0, c1, c2⟩ := hcells k m hm
      have c0 := T.keep c0 (fun q => q)
      have c1 := T.keep c1 (fun q => q)
      have c2 := T.keep c2 (fun q => q)
      have hlt' : (k : Int) < (n : Int) := by omega
      have hcl := mine39 wr m p a (T.keep hp (fun q => q))
      have HH := idx_hit l a k m hall hm
      have HS := take_all (P := fun x => x.ad ≠ a) hall hm
      clear hcells hok hm hall
      go_wp2_with fail
      refine hcl.mono ?_
      rintro e w1 ⟨bb, rfl, hbb, T1⟩
      have T2 := T.then_no T1
      clear hcl
      by_cases a1 : m.ad = a
      · obtain rfl := hbb.2 a1
        have HW : Hid (idxE l a = k) := HH a1
        clear HH HS hbb a1
        go_wp2_with fail
        go_ret
        exact ⟨ret_i HW.out.symm, T2⟩
      · have hb : bb = false := by
          cases bb with
          | false => rfl
          | true => exact absurd (hbb.1 rfl) a1
        subst hb
        have hs := HS a1
        clear HH HS hbb
        go_wp2_with fail
        go_roundw
        case rel => exact ⟨k + 1, by omega, by go_num, hs, T2⟩
        case measure => simp [intOf]; omega
    · have hkn : k = n := by omega
      subst hkn
      have hlt' : ¬ (k : Int) < (k : Int) := by omega
      rw [List.take_of_length_le (by rw [hn.out]; exact Nat.le_refl _)] at hall
      have HW : Hid (idxE l a = -1) := idx_miss l a hall
      clear hall
      go_wp2_with fail
      go_ret
      exact ⟨ret_i HW.out.symm, T⟩

set_option maxRecDepth 100000 in
set_option maxHeartbeats 1000000 in
theorem index20 (w : World) (v : Value) (l : List Mb) (h : Ms w v l) (a : Nat) : Calls Tryz.prog 36 #[.agg #[v], .int .u64 a] w fun e w' => e = .returned (.int .i64 (idxE l a)) ∧ Turn no w w' := by
  have T0 : Turn no w ((w.alloc (.cells #[v] 29)).alloc (.cells #[.int .u64 a] 46)) := ((Turn.refl no w).alloc _).alloc _
  have hp : ((w.alloc (.cells #[v] 29)).alloc (.cells #[.int .u64 a] 46)).cell? ⟨w.heap.size + 1, 0, none⟩ = some (.int .u64 a) := by simp
  have hc := index38 ((w.alloc (.cells #[v] 29)).alloc (.cells #[.int .u64 a] 46)) v l (h.turn_no T0) ⟨w.heap.size + 1, 0, none⟩ a hp
  have hmf : ∀ (fn : Fn) (first cap : Array Value) (w : World), (Instr.makeFunc fn first cap).run Tryz.prog w = .ok (.func fn first cap) w := fun _ _ _ _ => rfl
  clear h hp
  go_enter Tryz.func36, Tryz.ntmps36
  go_wp2_with fail
  refine hc.mono ?_
  rintro e w1 ⟨rfl, T1⟩
  go_wp2_with fail
  go_ret
  exact ⟨rfl, T0.then_no T1⟩

set_option maxRecDepth 100000 in
set_option maxHeartbeats 1000000 in
theorem rindex31 (w : World) (v : Value) (l : List Mb) (h : Ms w v l) (a : Nat) : Calls Tryz.prog 70 #[.agg #[v], .int .u64 a] w fun e w' => e = .returned (.int .i64 (idxE l a)) ∧ Turn no w w' := by
  have T0 : Turn no w (w.alloc (.cells #[v] 29)) := (Turn.refl no w).alloc _
  obtain ⟨ad, cap, rfl, h⟩ := h
  have hcells := (h.turn_no T0).cells
  have hle : l.length ≤ 9223372036854775807 := by have := h.le; have := h.cap; simp only [maxLen] at this; omega
  clear h
  obtain ⟨n, hn⟩ : ∃ n, Hid (l.length = n) := ⟨_, rfl⟩
  have hn' : l.length = n := hn.out
  rw [hn'] at hle hcells T0 ⊢
  clear hn'
  go_enter Tryz.func70, Tryz.ntmps70
  go_wp2_with fail
  go_loop [5] (fun c => ∃ k : Nat, k ≤ n ∧ c = .int .i64 k ∧ (∀ m ∈ l.take k, m.ad ≠ a)) (fun c => n - (intOf c).toNat)
  case atStart => exact ⟨0, by omega, rfl, by simp⟩
  case round =>
    obtain ⟨k, hk, rfl, hall⟩ := hrel
    by_cases hlt : k < n
    · obtain ⟨m, hm⟩ : ∃ m, l[k]? = some m := ⟨l[k]'(by rw [hn.out]; exact hlt), List.getElem?_eq_getElem _⟩
      obtain ⟨b, off, rfl, c0, c1, c2⟩ := hcells k m hm
      have hlt' : (k : Int) < (n : Int) := by omega
      have HH := idx_hit l a k m hall hm
      have HS := take_all (P := fun x => x.ad ≠ a) hall hm
      clear hcells hm hall
      by_cases a1 : m.ad = a
      · have HW : Hid (idxE l a = k) := HH a1
        have a1' : ((m.ad : Int) == (a : Int)) = true := by simp; omega
        clear HH HS a1
        go_wp2_with fail
        go_ret
        exact ⟨ret_i HW.out.symm, T0⟩
      · have hs := HS a1
        have a1' : ((m.ad : Int) == (a : Int)) = false := by simp; omega
        clear HH HS
        go_wp2_with fail
        go_round
        case rel => exact ⟨k + 1, by omega, by go_num, hs⟩
        case measure => simp [intOf]; omega
    · have hkn : k = n := by omega
      subst hkn
      have hlt' : ¬ (k : Int) < (k : Int) := by omega
      rw [List.take_of_length_le (by rw [hn.out]; exact Nat.le_refl _)] at hall
      have HW : Hid (idxE l a = -1) := idx_miss l a hall
      clear hall
      go_wp2_with fail
      go_ret
      exact ⟨ret_i HW.out.symm, T0⟩
end Go.Proofs.YtgbcdjjnpadddaaGreatDoor


