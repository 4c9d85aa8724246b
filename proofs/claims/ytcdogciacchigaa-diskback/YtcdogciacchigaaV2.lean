/- One disk and a script; a disk whose power is gone. -/
import Derived.Test.YtcdogciacchigaaV1
import Derived.Test.YtcdogciacchigaaFaults
namespace Go.Proofs.Ytcdogciacchigaa
open Go.RowKit Go.Maps
set_option linter.unusedVariables false

theorem numb_bounds (s : St) (l : List Pf) : (numb s l).1.n ≤ s.n + 1 ∧ (numb s l).1.m = s.m ∧ (numb s l).1.out = s.out := by
  unfold numb
  dsimp only
  split
  · exact ⟨Nat.le_refl _, rfl, rfl⟩
  · split
    · exact ⟨Nat.le_refl _, rfl, rfl⟩
    · exact ⟨Nat.le_refl _, rfl, rfl⟩
theorem do_bounds (s : St) (o : Opx) : (doS s o).1.n ≤ s.n + 1 ∧ (doS s o).1.m ≤ s.m + 1 ∧ (doS s o).1.out = s.out := by
  by_cases h : o.kind = 11
  · have : doS s o = armS s o.t := by simp [doS, h]
    rw [this]
    unfold armS
    split
    · exact ⟨Nat.le_succ _, Nat.le_succ _, rfl⟩
    · split
      · exact ⟨Nat.le_succ _, Nat.le_refl _, rfl⟩
      · exact ⟨Nat.le_succ _, Nat.le_succ _, rfl⟩
  · rw [do_plan s o h]
    split
    · rename_i l _
      obtain ⟨a, b, c⟩ := numb_bounds s l
      exact ⟨a, by omega, c⟩
    · exact ⟨Nat.le_succ _, Nat.le_succ _, rfl⟩
theorem do_off {s : St} (h : s.off = true) (o : Opx) (hk : 1 ≤ o.kind ∧ o.kind ≤ 5) : doS s o = (s, 63) := by
  rw [do_plan s o (by omega)]
  have ha : asked s o.nm = 63 := by simp [asked, h]
  have hf : foundE s o.nm = 63 := by simp [foundE, ha]
  have : planS s o = (none, 63) := by
    have : o.kind = 1 ∨ o.kind = 2 ∨ o.kind = 3 ∨ o.kind = 4 ∨ o.kind = 5 := by omega
    rcases this with e | e | e | e | e <;> simp [planS, e, ha, hf]
  rw [this]

def One (B : Nat) (w : World) (p : Nat) (s : St) : Prop := ∃ K, Dk w p K s ∧ ∀ k, K k → B ≤ k
theorem One.turn_no {B : Nat} {w w' : World} {p : Nat} {s : St} (h : One B w p s) (t : Turn no w w') : One B w' p s := by
  obtain ⟨K, h1, h2⟩ := h
  exact ⟨K, h1.turn_no t, h2⟩
theorem One.does {B : Nat} {w : World} {p : Nat} {s : St} (h : One B w p s) (hB : B ≤ w.heap.size) (hn : s.n < 4611686018427387904) (hm : s.m < 4611686018427387904) {o : Opx} (ho : Ox B w o) {va : Option Addr} {vn vc : Nat} {ka : Option Addr} {kn kc : Nat} (e : o.vd = .slice va vn vc) (e' : o.vk = .slice ka kn kc) :
    Calls Try.prog 18 #[ptr p, opX o va vn vc ka kn kc] w fun e w' => e = .returned (.int .i64 (doS s o).2) ∧ One B w' p (doS s o).1 ∧ Turn (old B) w w' := by
  rw [← opX_eq e e']
  obtain ⟨K, h1, h4⟩ := h
  refine (does18 h1 hn hm B h4 o ho).mono ?_
  rintro e w' ⟨rfl, K2, hD, hF, T⟩
  refine ⟨rfl, ⟨K2, hD, fun k hk => ?_⟩, T.mono (fun k _ hk => h4 k hk)⟩
  rcases hF k hk with x | x
  · exact h4 k x
  · omega
theorem One.crash {B : Nat} {w0 w : World} {p : Nat} {s : St} (h : One B w0 p s) (t : Turn no w0 w) (hout : s.out = false) (vk : Value) (keep : List Int) (hkeep : Vs w vk (keep.map iv)) (junk : UInt8) :
    Calls Try.prog 15 #[ptr p, vk, .int .u8 junk.toNat] w fun e w' => ∃ v, e = .returned (.tuple #[.agg #[v], .int .i64 0]) ∧ Im w.heap.size w' v (crashL s.fs keep junk) ∧ One B w' p { s with off := true, out := true } ∧ Turn (fun k => B ≤ k ∧ k < w0.heap.size) w w' := by
  obtain ⟨K, h1, h4⟩ := h
  have hlt : ∀ k, K k → k < w0.heap.size := by
    obtain ⟨_, _, _, hd⟩ := h1
    exact hd.klt
  refine (crash15 (h1.turn_no t) hout vk keep hkeep junk).mono ?_
  rintro e w' ⟨v, rfl, hI, hD, T⟩
  exact ⟨v, rfl, hI, ⟨K, hD, h4⟩, T.mono (fun k _ hk => ⟨h4 k hk, hlt k hk⟩)⟩
theorem One.on {B : Nat} {w : World} {p : Nat} {s : St} (h : One B w p s) : Calls Try.prog 13 #[ptr p] w fun e w' => e = .returned (.bool (!s.off)) ∧ w' = w := by
  obtain ⟨K, h1, _⟩ := h
  exact on13 h1
theorem One.tells {B : Nat} {w : World} {p : Nat} {s : St} (h : One B w p s) : Calls Try.prog 26 #[ptr p] w fun e w' => ∃ v, e = .returned (.tuple #[v, .bool true]) ∧ Tl w.heap.size w' v (tellL s) ∧ Turn no w w' := by
  obtain ⟨K, h1, _⟩ := h
  exact tells26 h1
theorem One.ok {B : Nat} {w : World} {p : Nat} {s : St} (h : One B w p s) : (∀ f ∈ s.fs, f.sy ≤ f.bs.length ∧ f.bs.length ≤ 1073741824) ∧ s.fs.length ≤ 65536 := by
  obtain ⟨K, ⟨_, _, _, hd⟩, _⟩ := h
  exact ⟨fun f hf => ⟨hd.inv.sy f hf, hd.len hf⟩, hd.inv.count⟩
theorem One.crash2 {B : Nat} {w : World} {p : Nat} {s : St} (h : One B w p s) (ho : s.out = true) (a : Option Addr) (n cap : Nat) (j : Int) : Calls Try.prog 15 #[ptr p, .slice a n cap, .int .u8 j] w fun e w' => e = .returned (.tuple #[.agg #[.slice none 0 0], .int .i64 63]) ∧ Turn no w w' := by
  obtain ⟨K, h1, _⟩ := h
  exact crash15_out h1 ho a n cap j
theorem One.readA {B : Nat} {w : World} {p : Nat} {s : St} (h : One B w p s) (ho : s.off = true) : Calls Try.prog 20 #[ptr p, strV [97]] w fun e w' => ∃ v, e = .returned (.tuple #[v, .int .i64 63]) ∧ Turn no w w' := by
  obtain ⟨K, h1, _⟩ := h
  refine (read20 h1 [97] (by simp [maxLen])).mono ?_
  rintro e w' ⟨v, rfl, _, _, t⟩
  have : foundE s [97] = 63 := by simp [foundE, asked, ho]
  rw [this]
  exact ⟨v, rfl, t⟩
theorem One.names {B : Nat} {w : World} {p : Nat} {s : St} (h : One B w p s) (ho : s.off = true) : Calls Try.prog 29 #[ptr p] w fun e w' => ∃ a c, e = .returned (.slice a 0 c) ∧ Turn no w w' := by
  obtain ⟨K, h1, _⟩ := h
  refine (names29 h1).mono ?_
  rintro e w' ⟨v, rfl, hO, _, t⟩
  simp only [ho, if_true, List.map_nil] at hO
  rcases hO.shape with ⟨q, _⟩ | ⟨g, c, cur, q, _⟩
  · exact ⟨none, 0, by rw [q], t⟩
  · exact ⟨_, _, by rw [q]; rfl, t⟩
end Go.Proofs.Ytcdogciacchigaa
