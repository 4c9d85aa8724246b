/- Two disks side by side; a script's op, loaded. -/
import Derived.Test.YtcdogciacchigabQ0
import Derived.Test.YtcdogciacchigabL1
namespace Go.Proofs.Ytcdogciacchigab
open Go.RowKit Go.Maps
set_option linter.unusedVariables false

/-- Two disks in memory of their own, from B on. -/
def Two (B : Nat) (w : World) (p q : Nat) (s s' : St) : Prop :=
  ∃ K K', Dk w p K s ∧ Dk w q K' s' ∧ (∀ k, K k → ¬ K' k) ∧ (∀ k, K k → B ≤ k) ∧ (∀ k, K' k → B ≤ k)
theorem Two.turn_no {B : Nat} {w w' : World} {p q : Nat} {s s' : St} (h : Two B w p q s s') (t : Turn no w w') : Two B w' p q s s' := by
  obtain ⟨K, K', h1, h2, h3⟩ := h
  exact ⟨K, K', h1.turn_no t, h2.turn_no t, h3⟩
def old (B : Nat) : Nat → Prop := fun k => B ≤ k
/-- A call of the first. -/
theorem Two.fst {B : Nat} {w : World} {p q : Nat} {s s' : St} (h : Two B w p q s s') (hB : B ≤ w.heap.size) {r : St × Int} {f : Nat} {args : Array Value}
    (hc : ∀ K, Dk w p K s → (∀ k, K k → B ≤ k) → Calls Try.prog f args w (Ans w p K r)) : Calls Try.prog f args w fun e w' => e = .returned (.int .i64 r.2) ∧ Two B w' p q r.1 s' ∧ Turn (old B) w w' := by
  obtain ⟨K, K', h1, h2, h3, h4, h5⟩ := h
  have hlt : ∀ k, K' k → k < w.heap.size := by
    obtain ⟨_, _, _, hd⟩ := h2
    exact hd.klt
  refine (hc K h1 h4).mono ?_
  rintro e w' ⟨rfl, K2, hD, hF, T⟩
  refine ⟨rfl, ⟨K2, K', hD, h2.turn T (fun k hk q => h3 k q hk), fun k hk hk' => ?_, fun k hk => ?_, h5⟩, T.mono (fun k _ hk => h4 k hk)⟩
  · rcases hF k hk with x | x
    · exact h3 k x hk'
    · have := hlt k hk'; omega
  · rcases hF k hk with x | x
    · exact h4 k x
    · omega
theorem Two.swap {B : Nat} {w : World} {p q : Nat} {s s' : St} (h : Two B w p q s s') : Two B w q p s' s := by
  obtain ⟨K, K', h1, h2, h3, h4, h5⟩ := h
  exact ⟨K', K, h2, h1, fun k a b => h3 k b a, h5, h4⟩
theorem Two.snd {B : Nat} {w : World} {p q : Nat} {s s' : St} (h : Two B w p q s s') (hB : B ≤ w.heap.size) {r : St × Int} {f : Nat} {args : Array Value}
    (hc : ∀ K, Dk w q K s' → (∀ k, K k → B ≤ k) → Calls Try.prog f args w (Ans w q K r)) : Calls Try.prog f args w fun e w' => e = .returned (.int .i64 r.2) ∧ Two B w' p q s r.1 ∧ Turn (old B) w w' :=
  (h.swap.fst hB hc).mono (fun e w' hh => ⟨hh.1, hh.2.1.swap, hh.2.2⟩)
theorem Two.one {B : Nat} {w : World} {p q : Nat} {s s' : St} (h : Two B w p q s s') : (∃ K, Dk w p K s) ∧ (∃ K, Dk w q K s') := by
  obtain ⟨K, K', h1, h2, _⟩ := h
  exact ⟨⟨K, h1⟩, ⟨K', h2⟩⟩
theorem Sc.turn {B : Nat} {w w' : World} {v : Value} {l : List Opx} (h : Sc B w v l) (t : Turn (old B) w w') : Sc B w' v l := by
  obtain ⟨a, cap, e, h1, h2, h3, h4⟩ := h
  refine ⟨a, cap, e, h1, h2, fun o ho => (h3 o ho).turn t (fun k hk => hk), fun j o hj => ?_⟩
  obtain ⟨b, off, ea, hb, hc⟩ := h4 j o hj
  exact ⟨b, off, ea, hb, fun i u hu => t.keep (hc i u hu) (fun q => by have : B ≤ b := q; omega)⟩
theorem Sc.slice {B : Nat} {w : World} {v : Value} {l : List Opx} (h : Sc B w v l) : ∃ a cap, v = .slice a l.length cap ∧ l.length ≤ 9223372036854775807 := by
  obtain ⟨a, cap, e, h1, h2, _⟩ := h
  exact ⟨a, cap, e, by simp only [maxLen] at h2; omega⟩
/-- An op's cells, its slices as they are. -/
structure OpAt (w : World) (b j : Nat) (o : Opx) (va : Option Addr) (vn vc : Nat) (ka : Option Addr) (kn kc : Nat) : Prop where
  vd : o.vd = .slice va vn vc
  vk : o.vk = .slice ka kn kc
  c0 : w.cell? ⟨b, j, none⟩ = some (.int .i64 o.kind)
  c1 : w.cell? ⟨b, j + 1, none⟩ = some (.int .i64 o.who)
  c2 : w.cell? ⟨b, j + 2, none⟩ = some (.string ⟨o.nm.toArray⟩)
  c3 : w.cell? ⟨b, j + 3, none⟩ = some (.slice va vn vc)
  c4 : w.cell? ⟨b, j + 4, none⟩ = some (.int .i64 o.n)
  c5 : w.cell? ⟨b, j + 5, none⟩ = some (.int .i64 o.t.when)
  c6 : w.cell? ⟨b, j + 6, none⟩ = some (.int .i64 o.t.kind)
  c7 : w.cell? ⟨b, j + 7, none⟩ = some (.bool o.t.done)
  c8 : w.cell? ⟨b, j + 8, none⟩ = some (.slice ka kn kc)
  c9 : w.cell? ⟨b, j + 9, none⟩ = some (.int .u8 o.junk.toNat)
theorem Ox.shapes {B : Nat} {w : World} {o : Opx} (h : Ox B w o) : ∃ va vn vc ka kn kc, o.vd = .slice va vn vc ∧ o.vk = .slice ka kn kc := by
  obtain ⟨a, c, e⟩ := h.data.slice
  obtain ⟨a', c', e'⟩ := h.keep.slice
  exact ⟨_, _, _, _, _, _, e, e'⟩
theorem OpAt.of {w : World} {b j : Nat} {o : Opx} {va : Option Addr} {vn vc : Nat} {ka : Option Addr} {kn kc : Nat} (e : o.vd = .slice va vn vc) (e' : o.vk = .slice ka kn kc) (hc : ∀ i u, (opC o)[i]? = some u → w.cell? ⟨b, j + i, none⟩ = some u) : OpAt w b j o va vn vc ka kn kc := by
  refine ⟨e, e', ?_, hc 1 _ rfl, hc 2 _ rfl, ?_, hc 4 _ rfl, hc 5 _ rfl, hc 6 _ rfl, hc 7 _ rfl, ?_, hc 9 _ rfl⟩
  · exact hc 0 _ rfl
  · rw [← e]; exact hc 3 _ rfl
  · rw [← e']; exact hc 8 _ rfl
theorem OpAt.turn {S : Nat → Prop} {w w' : World} {b j : Nat} {o : Opx} {va : Option Addr} {vn vc : Nat} {ka : Option Addr} {kn kc : Nat} (h : OpAt w b j o va vn vc ka kn kc) (t : Turn S w w') (hb : ¬ S b) : OpAt w' b j o va vn vc ka kn kc :=
  ⟨h.vd, h.vk, t.keep h.c0 hb, t.keep h.c1 hb, t.keep h.c2 hb, t.keep h.c3 hb, t.keep h.c4 hb, t.keep h.c5 hb, t.keep h.c6 hb, t.keep h.c7 hb, t.keep h.c8 hb, t.keep h.c9 hb⟩
theorem Sc.at {B : Nat} {w : World} {a : Option Addr} {n cap : Nat} {l : List Opx} (h : Sc B w (.slice a n cap) l) (j : Nat) (o : Opx) (hj : l[j]? = some o) : ∃ b off va vn vc ka kn kc, a = some ⟨b, off, none⟩ ∧ b < B ∧ Ox B w o ∧ OpAt w b (off + j * 10) o va vn vc ka kn kc := by
  obtain ⟨a', cap', e, h1, h2, h3, h4⟩ := h
  obtain ⟨b, off, ea, hb, hc⟩ := h4 j o hj
  have hO := h3 o (List.mem_of_getElem? hj)
  obtain ⟨va, vn, vc, ka, kn, kc, e1, e2⟩ := hO.shapes
  have : a = a' := by simp at e; exact e.1
  exact ⟨b, off, va, vn, vc, ka, kn, kc, this.trans ea, hb, hO, OpAt.of e1 e2 hc⟩
/-- An op as it is loaded. -/
def opX (o : Opx) (va : Option Addr) (vn vc : Nat) (ka : Option Addr) (kn kc : Nat) : Value := .agg #[.int .i64 o.kind, .int .i64 o.who, .string ⟨o.nm.toArray⟩, .slice va vn vc, .int .i64 o.n, .int .i64 o.t.when, .int .i64 o.t.kind, .bool o.t.done, .slice ka kn kc, .int .u8 o.junk.toNat]
theorem opX_eq {o : Opx} {va : Option Addr} {vn vc : Nat} {ka : Option Addr} {kn kc : Nat} (e : o.vd = .slice va vn vc) (e' : o.vk = .slice ka kn kc) : Value.agg (opC o) = opX o va vn vc ka kn kc := by
  unfold opC opX strV
  rw [e, e']
theorem Two.does1 {B : Nat} {w : World} {p q : Nat} {s s' : St} (h : Two B w p q s s') (hB : B ≤ w.heap.size) (hn : s.n < 4611686018427387904) (hm : s.m < 4611686018427387904) {o : Opx} (ho : Ox B w o) {va : Option Addr} {vn vc : Nat} {ka : Option Addr} {kn kc : Nat} (e : o.vd = .slice va vn vc) (e' : o.vk = .slice ka kn kc) :
    Calls Try.prog 10 #[ptr p, opX o va vn vc ka kn kc] w fun e w' => e = .returned (.int .i64 (doS s o).2) ∧ Two B w' p q (doS s o).1 s' ∧ Turn (old B) w w' := by
  rw [← opX_eq e e']
  exact h.fst hB (fun K hD hK => does18 hD hn hm B hK o ho)
theorem Two.does2 {B : Nat} {w : World} {p q : Nat} {s s' : St} (h : Two B w p q s s') (hB : B ≤ w.heap.size) (hn : s'.n < 4611686018427387904) (hm : s'.m < 4611686018427387904) {o : Opx} (ho : Ox B w o) {va : Option Addr} {vn vc : Nat} {ka : Option Addr} {kn kc : Nat} (e : o.vd = .slice va vn vc) (e' : o.vk = .slice ka kn kc) :
    Calls Try.prog 10 #[ptr q, opX o va vn vc ka kn kc] w fun e w' => e = .returned (.int .i64 (doS s' o).2) ∧ Two B w' p q s (doS s' o).1 ∧ Turn (old B) w w' := by
  rw [← opX_eq e e']
  exact h.snd hB (fun K hD hK => does18 hD hn hm B hK o ho)
theorem Two.alike {B : Nat} {w : World} {p q : Nat} {s s' : St} (h : Two B w p q s s') (hl : tellL s' = tellL s) (ho : s'.off = s.off) : Calls Try.prog 15 #[ptr p, ptr q] w fun e w' => e = .returned (.bool true) ∧ Turn no w w' := by
  obtain ⟨⟨K, h1⟩, ⟨K', h2⟩⟩ := h.one
  exact alike23 h1 h2 hl ho
theorem Two.calls {B : Nat} {w : World} {p q : Nat} {s s' : St} (h : Two B w p q s s') : (Calls Try.prog 11 #[ptr p] w fun e w' => e = .returned (.int .i64 s.n) ∧ w' = w) ∧ (Calls Try.prog 11 #[ptr q] w fun e w' => e = .returned (.int .i64 s'.n) ∧ w' = w) := by
  obtain ⟨⟨K, h1⟩, ⟨K', h2⟩⟩ := h.one
  exact ⟨calls14 h1, calls14 h2⟩
theorem Two.arm1 {B : Nat} {w : World} {p q : Nat} {s s' : St} (h : Two B w p q s s') (hB : B ≤ w.heap.size) (hn : s.n < 4611686018427387904) (hm : s.m < 4611686018427387904) (t : Tr) : Calls Try.prog 13 #[ptr p, trV t] w fun e w' => e = .returned (.int .i64 (armS s t).2) ∧ Two B w' p q (armS s t).1 s' ∧ Turn (old B) w w' :=
  h.fst hB (fun K hD hK => (arm11 hD hn hm t).mono (fun e w' h => ⟨h.1, K, h.2.1, From.refl _ K, h.2.2⟩))
end Go.Proofs.Ytcdogciacchigab
