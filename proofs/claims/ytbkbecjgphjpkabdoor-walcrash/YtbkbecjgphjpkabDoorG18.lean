/- What a crash leaves, as the law holds it. -/
import Derived.Test.YtbkbecjgphjpkabDoorG17
namespace Go.Proofs.YtbkbecjgphjpkabDoor
open Go.RowKit Go.Maps
set_option linter.unusedVariables false

def Crd (W0 : World) (ts ms : List It) (vh vm : Value) (safe : Nat) (c20 c21 : Value) (wx : World) : Prop :=
  ∃ gi xa xn xc B fl, c20 = .pointer (some ⟨gi, 0, none⟩) ∧ c21 = .int .i64 0 ∧ wx.cell? ⟨gi, 0, none⟩ = some (.slice xa xn xc) ∧ Im B wx (.slice xa xn xc) fl ∧ (∀ f ∈ fl, f.1.length ≤ maxLen) ∧ Left fl (ts.map (·.2)) (ms.map (·.2)) safe ∧ Hr wx vh ts ∧ Hr wx vm ms ∧ (∀ k, hfoot vh ts k ∨ hfoot vm ms k → W0.heap.size ≤ k) ∧ Turn no W0 wx
theorem Im.form {B : Nat} {w : World} {v : Value} {fl : List Fi} (h : Im B w v fl) : ∃ a n c, v = .slice a n c := by
  obtain ⟨vs, h1, h2, h3, h4⟩ := h
  obtain ⟨a, cap, rfl, _⟩ := h2.form
  exact ⟨_, _, _, rfl⟩
/-- The image's block was made behind the crash. -/
theorem Crd.late {W0 w2 : World} {B : Nat} {ts ms : List It} {vh vm : Value} {safe : Nat} {xa : Option Addr} {xn xc : Nat} {fl : List Fi} {wx : World} (t : Turn no w2 wx) (hc : wx.cell? ⟨w2.heap.size, 0, none⟩ = some (.slice xa xn xc)) (im : Im B w2 (.slice xa xn xc) fl) (hn : ∀ f ∈ fl, f.1.length ≤ maxLen) (L : Left fl (ts.map (·.2)) (ms.map (·.2)) safe) (h1 : Hr w2 vh ts) (h2 : Hr w2 vm ms)
    (hf : ∀ k, hfoot vh ts k ∨ hfoot vm ms k → ¬ k < W0.heap.size) (T : Turn (fun k => ¬ k < W0.heap.size) W0 w2) : Crd W0 ts ms vh vm safe (.pointer (some ⟨w2.heap.size, 0, none⟩)) (.int .i64 0) wx :=
  ⟨_, _, _, _, B, fl, rfl, rfl, hc, im.turn_no t, hn, L, h1.turn_no t, h2.turn_no t, fun k z => by have := hf k z; omega, (turn_old T).then_no t⟩
/-- The image's block was made ahead of it. -/
theorem Crd.early {W0 w2 : World} {B gi : Nat} {ts ms : List It} {vh vm : Value} {safe : Nat} {xa : Option Addr} {xn xc : Nat} {fl : List Fi} {wx : World} (t : Turn (fun k => k = gi) w2 wx) (hc : wx.cell? ⟨gi, 0, none⟩ = some (.slice xa xn xc)) (hgi : gi < B) (hg0 : W0.heap.size ≤ gi) (im : Im B w2 (.slice xa xn xc) fl) (hn : ∀ f ∈ fl, f.1.length ≤ maxLen) (L : Left fl (ts.map (·.2)) (ms.map (·.2)) safe) (h1 : Hr w2 vh ts) (h2 : Hr w2 vm ms)
    (hf : ∀ k, hfoot vh ts k ∨ hfoot vm ms k → ¬ (k < W0.heap.size ∨ k = gi)) (T : Turn no W0 w2) : Crd W0 ts ms vh vm safe (.pointer (some ⟨gi, 0, none⟩)) (.int .i64 0) wx :=
  ⟨_, _, _, _, B, fl, rfl, rfl, hc, im.turn t (fun k z => by omega), hn, L, h1.turn t (fun k z z' => hf k (Or.inl z) (Or.inr z')), h2.turn t (fun k z z' => hf k (Or.inr z) (Or.inr z')), fun k z => by have := hf k z; omega, T.trans t (fun i hi z => by omega)⟩
theorem vs_row {w : World} {g : Nat} {k : Int} (h : w.cell? ⟨g, 0, none⟩ = some (.int .i64 k)) : Vs w (.slice (some ⟨g, 0, none⟩) 1 1) ([k].map iv) :=
  Or.inr ⟨_, 1, rfl, by simp, by simp [maxLen], fun j u hu => by
    cases j with
    | zero => simp at hu; rw [Addr.add_lit]; rw [← hu]; exact h
    | succ j => simp at hu⟩
theorem vs_lit (w : World) (k : Int) : Vs (w.alloc (.cells #[.int .i64 k] 3)).drew (.slice (some ⟨w.heap.size, 0, none⟩) 1 1) ([k].map iv) :=
  vs_row (by
    have := heap_alloc_new w (.cells #[.int .i64 k] 3)
    exact cell_of_row _ w.heap.size 0 _ 3 (0, 0) this)
end Go.Proofs.YtbkbecjgphjpkabDoor
