/- A list of marks in memory. -/
import Derived.Test.YtbhimedajfkioaaC2
import Derived.Sort.Grow
import Derived.Deep.RegionHeld3
import Derived.Deep.CutRange
import Derived.Laws.ResultCell
import Derived.Laws.Rows
namespace Go.Proofs.Ytbhimedajfkioaa
open Go.RowKit
set_option linter.unusedVariables false

theorem shut {p : Prop} (h : p) : Shut p := h
/-- A mark. -/
structure Mk where
  ix : Int
  tm : Nat
  s : Nat → Int
def mk0 : Mk := ⟨0, 0, fun _ => 0⟩
def Mk.ok (m : Mk) : Prop := (-9223372036854775808 ≤ m.ix ∧ m.ix < 9223372036854775808) ∧ m.tm < 18446744073709551616
/-- A mark's cells. -/
def mkL (m : Mk) : List Value := [.int .i64 m.ix, .int .u64 m.tm, .int .u8 (m.s 0), .int .u8 (m.s 1), .int .u8 (m.s 2), .int .u8 (m.s 3), .int .u8 (m.s 4), .int .u8 (m.s 5), .int .u8 (m.s 6), .int .u8 (m.s 7), .int .u8 (m.s 8), .int .u8 (m.s 9), .int .u8 (m.s 10), .int .u8 (m.s 11), .int .u8 (m.s 12), .int .u8 (m.s 13), .int .u8 (m.s 14), .int .u8 (m.s 15)]
def mkA (m : Mk) : Array Value := #[.int .i64 m.ix, .int .u64 m.tm, .int .u8 (m.s 0), .int .u8 (m.s 1), .int .u8 (m.s 2), .int .u8 (m.s 3), .int .u8 (m.s 4), .int .u8 (m.s 5), .int .u8 (m.s 6), .int .u8 (m.s 7), .int .u8 (m.s 8), .int .u8 (m.s 9), .int .u8 (m.s 10), .int .u8 (m.s 11), .int .u8 (m.s 12), .int .u8 (m.s 13), .int .u8 (m.s 14), .int .u8 (m.s 15)]
theorem mkL_len (m : Mk) : (mkL m).length = 18 := rfl
theorem mkA_toList (m : Mk) : (mkA m).toList = mkL m := rfl
theorem mkL_one (m : Mk) : ∀ v ∈ mkL m, v.oneCell' = true := by
  intro v hv
  simp only [mkL, List.mem_cons, List.not_mem_nil, or_false] at hv
  rcases hv with rfl | rfl | rfl | rfl | rfl | rfl | rfl | rfl | rfl | rfl | rfl | rfl | rfl | rfl | rfl | rfl | rfl | rfl <;> rfl
def mkF (l : List Mk) : List Value := l.flatMap mkL
theorem mkF_len (l : List Mk) : (mkF l).length = l.length * 18 := by
  induction l with
  | nil => rfl
  | cons m r ih =>
    rw [mkF, List.flatMap_cons, List.length_append, mkL_len, ← mkF, ih, List.length_cons]
    omega
theorem mkF_at : ∀ (l : List Mk) (j : Nat) (m : Mk), l[j]? = some m → ∀ i, i < 18 → (mkF l)[j * 18 + i]? = (mkL m)[i]?
  | x :: r, 0, m, h, i, hi => by
    simp at h
    subst h
    rw [mkF, List.flatMap_cons, Nat.zero_mul, Nat.zero_add, List.getElem?_append_left (by rw [mkL_len]; exact hi)]
  | x :: r, j + 1, m, h, i, hi => by
    rw [mkF, List.flatMap_cons, List.getElem?_append_right (by rw [mkL_len]; omega)]
    have := mkF_at r j m (by simpa using h) i hi
    rw [mkF] at this
    rw [← this, mkL_len]
    congr 1
    omega
/-- A list of marks, wherever it lies. -/
structure KsAt (w : World) (a : Option Addr) (cap : Nat) (l : List Mk) : Prop where
  le : l.length ≤ cap
  cap : cap ≤ maxLen
  ok : ∀ m ∈ l, m.ok
  cells : ∀ (j : Nat) m, l[j]? = some m → ∃ b off, a = some ⟨b, off, none⟩ ∧ ∀ i v, (mkL m)[i]? = some v → w.cell? ⟨b, off + j * 18 + i, none⟩ = some v
def Ks (w : World) (v : Value) (l : List Mk) : Prop := ∃ a cap, v = .slice a l.length cap ∧ KsAt w a cap l
theorem KsAt.turn {S : Nat → Prop} {w w' : World} {a : Option Addr} {cap : Nat} {l : List Mk} (h : KsAt w a cap l) (t : Turn S w w') (hn : ∀ x, a = some x → ¬ S x.block) : KsAt w' a cap l :=
  ⟨h.le, h.cap, h.ok, fun j m hj => by
    obtain ⟨b, off, e, c⟩ := h.cells j m hj
    exact ⟨b, off, e, fun i v hi => t.keep (c i v hi) (by have := hn _ e; exact this)⟩⟩
theorem KsAt.turn_no {w w' : World} {a : Option Addr} {cap : Nat} {l : List Mk} (h : KsAt w a cap l) (t : Turn no w w') : KsAt w' a cap l := h.turn t (fun _ _ q => q)
theorem Ks.turn_no {w w' : World} {v : Value} {l : List Mk} (h : Ks w v l) (t : Turn no w w') : Ks w' v l := by
  obtain ⟨a, cap, e, h⟩ := h
  exact ⟨a, cap, e, h.turn_no t⟩
theorem Ks.oks {w : World} {v : Value} {l : List Mk} (h : Ks w v l) : ∀ m ∈ l, m.ok := by
  obtain ⟨x, y, e, h⟩ := h
  exact h.ok
theorem OwnN.ks {w : World} {v : Value} {l : List Mk} (h : OwnN w 50 18 v l.length (mkF l)) (hok : ∀ m ∈ l, m.ok) : Ks w v l := by
  obtain ⟨a, cap, rfl, h0, h1, h2, h3⟩ := h.form
  refine ⟨a, cap, rfl, h2, h3, hok, fun j m hj => ?_⟩
  have hjl := (List.getElem?_eq_some_iff.1 hj).1
  rcases h.2 with ⟨_, q⟩ | ⟨g, cap', cur, e, _⟩
  · omega
  · cases e
    refine ⟨g, 0, rfl, fun i v hi => ?_⟩
    have hi18 : i < 18 := by have := (List.getElem?_eq_some_iff.1 hi).1; rwa [mkL_len] at this
    have := World.ownsRow.cells h (g := g) rfl (j * 18 + i) v (by rw [mkF_at l j m hj i hi18]; exact hi)
    simpa [Addr.add_lit] using this
theorem KsAt.src {w : World} {a : Addr} {cap : Nat} {l : List Mk} (h : KsAt w (some a) cap l) : Src Try.prog 18 28 (.slice (some a) l.length cap) l.length (mkF l) w := by
  refine Src.ofSlice w Try.underlying28 a l.length cap (mkF l) (mkF_len l) (fun j u hu => ?_) (fun u hu => ?_)
  · have hj : j < l.length * 18 := by rw [← mkF_len]; exact (List.getElem?_eq_some_iff.1 hu).1
    have hm : l[j / 18]? = some (l[j / 18]'(by omega)) := List.getElem?_eq_getElem (by omega)
    obtain ⟨b, off, e, c⟩ := h.cells _ _ hm
    cases e
    have hx := mkF_at l (j / 18) _ hm (j % 18) (by omega)
    have ej : j / 18 * 18 + j % 18 = j := by omega
    rw [ej, hu] at hx
    rw [Addr.add_lit]
    have := c (j % 18) u hx.symm
    rwa [show off + j / 18 * 18 + j % 18 = off + j by omega] at this
  · unfold mkF at hu
    rw [List.mem_flatMap] at hu
    obtain ⟨m, _, hm⟩ := hu
    exact mkL_one m u hm
theorem info50 : (Try.prog.info? 50).map (fun i => (i.zero, i.size, i.bytes)) = some (some (.agg (mkA mk0)), 18, 32) := by kernel_rfl
set_option maxRecDepth 100000 in
set_option maxHeartbeats 2000000 in
/-- copied. -/
theorem copied19 (w : World) (v : Value) (l : List Mk) (h : Ks w v l) (hl : l.length * 32 ≤ 140737488355328) : Calls Try.prog 19 #[v] w fun e w' => ∃ v', e = .returned v' ∧ OwnN w' 50 18 v' l.length (mkF l) ∧ (∀ g, v'.ownBlock = some g → w.heap.size ≤ g) ∧ Turn no w w' := by
  obtain ⟨a, cap, rfl, h⟩ := h
  by_cases h0 : l = []
  · subst h0
    clear h
    go_enter Try.func19, Try.ntmps19
    go_wp2_with fail
    go_ret
    exact ⟨_, rfl, OwnN.nil w 50 18, (fun g hg => by cases hg), Turn.refl _ _⟩
  · have hp : 0 < l.length := List.length_pos_iff.2 h0
    obtain ⟨m, hm⟩ : ∃ m, l[0]? = some m := ⟨l[0]'hp, List.getElem?_eq_getElem _⟩
    obtain ⟨b, off, rfl, _⟩ := h.cells 0 m hm
    have hs := h.src
    have hle : l.length ≤ 9223372036854775807 := by have := h.le; have := h.cap; simp only [maxLen] at this; omega
    obtain ⟨n, hn⟩ : ∃ n, Hid (l.length = n) := ⟨_, rfl⟩
    have hn' := hn.out
    have b0 : ((n : Int) == 0) = false := by simp; omega
    have hb : (0 + n) * 32 ≤ 140737488355328 := by omega
    have hm2 : 0 + n ≤ maxLen := by simp only [maxLen]; omega
    rw [hn'] at hs ⊢
    clear hn' h hm hl hp h0
    go_enter Try.func19, Try.ntmps19
    go_wp2_with (at_builtin; refine wpList_append_srcN rfl _ _ rfl Try.underlying28 info50 rfl (by omega) (.slice none 0 0) 0 [] rfl (OwnN.nil _ 50 18) _ n (mkF l) rfl hs hb hm2 ?_; intro v2 w2 O2 G2)
    go_ret
    rw [Nat.zero_add, List.nil_append] at O2
    exact ⟨_, rfl, O2, G2.fresh (B := w.heap.size) (fun g hg => by cases hg) (Nat.le_refl _), G2.turn.mono (fun k _ e => by cases e)⟩
end Go.Proofs.Ytbhimedajfkioaa
