/- One disk beside a book: the disk's blocks are none of R. -/
import Derived.Test.YtcdogciacchigaaW3
namespace Go.Proofs.Ytcdogciacchigaa
open Go.RowKit Go.Maps
set_option linter.unusedVariables false

def Onr (R : Nat → Prop) (B : Nat) (w : World) (p : Nat) (s : St) : Prop := ∃ K, Dk w p K s ∧ ∀ k, K k → B ≤ k ∧ ¬ R k
def but (B : Nat) (R : Nat → Prop) : Nat → Prop := fun k => B ≤ k ∧ ¬ R k
theorem One.onr {B : Nat} {w : World} {p : Nat} {s : St} (h : One B w p s) : Onr no B w p s := by
  obtain ⟨K, h1, h2⟩ := h
  exact ⟨K, h1, fun k hk => ⟨h2 k hk, fun q => q⟩⟩
theorem Onr.one {R : Nat → Prop} {B : Nat} {w : World} {p : Nat} {s : St} (h : Onr R B w p s) : One B w p s := by
  obtain ⟨K, h1, h2⟩ := h
  exact ⟨K, h1, fun k hk => (h2 k hk).1⟩
theorem Onr.turn_no {R : Nat → Prop} {B : Nat} {w w' : World} {p : Nat} {s : St} (h : Onr R B w p s) (t : Turn no w w') : Onr R B w' p s := by
  obtain ⟨K, h1, h2⟩ := h
  exact ⟨K, h1.turn_no t, h2⟩
theorem Onr.inv {R : Nat → Prop} {B : Nat} {w : World} {p : Nat} {s : St} (h : Onr R B w p s) : Inv s := by
  obtain ⟨K, ⟨_, _, _, hd⟩, _⟩ := h
  exact hd.inv
/-- What is new behind w is none of the disk's. -/
theorem Onr.grow {R : Nat → Prop} {B : Nat} {w w' : World} {p : Nat} {s : St} (h : Onr R B w p s) (t : Turn no w w') : Onr (fun k => R k ∨ (w.heap.size ≤ k ∧ k < w'.heap.size)) B w' p s := by
  obtain ⟨K, h1, h2⟩ := h
  have hlt : ∀ k, K k → k < w.heap.size := by
    obtain ⟨_, _, _, hd⟩ := h1
    exact hd.klt
  refine ⟨K, h1.turn_no t, fun k hk => ⟨(h2 k hk).1, fun q => ?_⟩⟩
  rcases q with q | q
  · exact (h2 k hk).2 q
  · have := hlt k hk; omega
theorem Onr.does {R : Nat → Prop} {B : Nat} {w : World} {p : Nat} {s : St} (h : Onr R B w p s) (hB : B ≤ w.heap.size) (hR : ∀ k, R k → k < w.heap.size) (hn : s.n < 4611686018427387904) (hm : s.m < 4611686018427387904) {o : Opx} (ho : Ox B w o) {va : Option Addr} {vn vc : Nat} {ka : Option Addr} {kn kc : Nat} (e : o.vd = .slice va vn vc) (e' : o.vk = .slice ka kn kc) :
    Calls Try.prog 18 #[ptr p, opX o va vn vc ka kn kc] w fun e w' => e = .returned (.int .i64 (doS s o).2) ∧ Onr R B w' p (doS s o).1 ∧ Turn (but B R) w w' := by
  rw [← opX_eq e e']
  obtain ⟨K, h1, h4⟩ := h
  refine (does18 h1 hn hm B (fun k hk => (h4 k hk).1) o ho).mono ?_
  rintro e w' ⟨rfl, K2, hD, hF, T⟩
  refine ⟨rfl, ⟨K2, hD, fun k hk => ?_⟩, T.mono (fun k _ hk => h4 k hk)⟩
  rcases hF k hk with x | x
  · exact h4 k x
  · exact ⟨by omega, fun q => by have := hR k q; omega⟩
theorem Onr.read {R : Nat → Prop} {B : Nat} {w : World} {p : Nat} {s : St} (h : Onr R B w p s) (nm : Nm) (hnm : nm.length ≤ maxLen) (hf : foundE s nm = 0) :
    Calls Try.prog 20 #[ptr p, strV nm] w fun e w' => ∃ a c, e = .returned (.tuple #[.slice a (readS s nm).length c, .int .i64 0]) ∧ Own w' 5 (.slice a (readS s nm).length c) ((readS s nm).map bv) ∧ (∀ g, (Value.slice a (readS s nm).length c).ownBlock = some g → w.heap.size ≤ g ∧ g < w'.heap.size) ∧ Turn no w w' := by
  obtain ⟨K, h1, _⟩ := h
  refine (read20 h1 nm hnm).mono ?_
  rintro e w' ⟨v, rfl, hO, hB, t⟩
  rw [hf]
  obtain ⟨a, c, rfl⟩ := hO.bs.slice
  refine ⟨a, c, rfl, hO, fun g hg => ⟨hB g hg, ?_⟩, t⟩
  obtain ⟨cs, e⟩ := hO.obj hg
  exact (Array.getElem?_eq_some_iff.1 e).1
theorem Onr.crash {R : Nat → Prop} {B : Nat} {w : World} {p : Nat} {s : St} (h : Onr R B w p s) (hout : s.out = false) (vk : Value) (keep : List Int) (hkeep : Vs w vk (keep.map iv)) (junk : UInt8) :
    Calls Try.prog 15 #[ptr p, vk, .int .u8 junk.toNat] w fun e w' => ∃ v, e = .returned (.tuple #[.agg #[v], .int .i64 0]) ∧ Im w.heap.size w' v (crashL s.fs keep junk) ∧ Turn (but B R) w w' := by
  obtain ⟨K, h1, h4⟩ := h
  refine (crash15 h1 hout vk keep hkeep junk).mono ?_
  rintro e w' ⟨v, rfl, hI, hD, T⟩
  exact ⟨v, rfl, hI, T.mono (fun k _ hk => h4 k hk)⟩
theorem Sl.but {R : Nat → Prop} {B : Nat} {w w' : World} {v : Value} {l : List Sf} (h : Sl R w v l) (t : Turn (but B R) w w') : Sl R w' v l := h.turn t (fun k hk q => q.2 hk)
end Go.Proofs.Ytcdogciacchigaa
