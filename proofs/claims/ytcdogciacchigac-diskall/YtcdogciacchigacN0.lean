/- An op of a script; does. -/
import Derived.Test.YtcdogciacchigacM9
import Derived.Test.YtcdogciacchigacM10
import Derived.Test.YtcdogciacchigacM11
namespace Go.Proofs.Ytcdogciacchigac
open Go.RowKit Go.Maps
set_option linter.unusedVariables false

/-- A slice of values of one cell, wherever it lies. -/
def Vs (w : World) (v : Value) (xs : List Value) : Prop :=
  (v = .slice none 0 0 ∧ xs = []) ∨ ∃ a cap, v = .slice (some a) xs.length cap ∧ xs.length ≤ cap ∧ cap ≤ maxLen ∧ ∀ j u, xs[j]? = some u → w.cell? (a.add j) = some u
theorem Vs.turn {S : Nat → Prop} {w w' : World} {v : Value} {xs : List Value} (h : Vs w v xs) (ht : Turn S w w') (hn : ∀ g, v.ownBlock = some g → ¬ S g) : Vs w' v xs := by
  rcases h with q | ⟨a, cap, rfl, h1, h2, h3⟩
  · exact Or.inl q
  · refine Or.inr ⟨a, cap, rfl, h1, h2, fun j u hu => ht.keep (h3 j u hu) ?_⟩
    have : (a.add j).block = a.block := by unfold Addr.add; split <;> rfl
    rw [this]
    exact hn _ rfl
theorem Vs.turn_no {w w' : World} {v : Value} {xs : List Value} (h : Vs w v xs) (ht : Turn no w w') : Vs w' v xs := h.turn ht (fun _ _ q => q)
theorem Vs.slice {w : World} {v : Value} {xs : List Value} (h : Vs w v xs) : ∃ a cap, v = .slice a xs.length cap := by
  rcases h with ⟨rfl, rfl⟩ | ⟨a, cap, rfl, _⟩
  · exact ⟨none, 0, rfl⟩
  · exact ⟨some a, cap, rfl⟩
theorem Vs.le {w : World} {v : Value} {xs : List Value} (h : Vs w v xs) : xs.length ≤ maxLen := by
  rcases h with ⟨_, rfl⟩ | ⟨_, _, _, h1, h2, _⟩
  · exact Nat.zero_le _
  · omega
theorem Vs.at {w : World} {v : Value} {xs : List Value} (h : Vs w v xs) (hp : 0 < xs.length) :
    ∃ b off cap, v = .slice (some ⟨b, off, none⟩) xs.length cap ∧ xs.length ≤ cap ∧ ∀ j u, xs[j]? = some u → w.cell? ⟨b, off + j, none⟩ = some u := by
  rcases h with ⟨_, rfl⟩ | ⟨⟨b, off, spot⟩, cap, rfl, h1, _, h3⟩
  · simp at hp
  · have hs : spot = none := by
      have := World.cell?_spot (h3 0 xs[0] (by simp [hp]))
      simpa [Addr.add] using this
    subst hs
    refine ⟨b, off, cap, rfl, h1, fun j u hu => ?_⟩
    have := h3 j u hu
    rw [Addr.add_lit] at this
    exact this
def iv (x : Int) : Value := .int .i64 x

/-- An op. -/
structure Opx where
  kind : Int
  who : Int
  nm : Nm
  vd : Value
  data : List UInt8
  n : Int
  t : Tr
  vk : Value
  keep : List Int
  junk : UInt8
def opC (o : Opx) : Array Value := #[.int .i64 o.kind, .int .i64 o.who, strV o.nm, o.vd, .int .i64 o.n, .int .i64 o.t.when, .int .i64 o.t.kind, .bool o.t.done, o.vk, .int .u8 o.junk.toNat]
structure Ox (B : Nat) (w : World) (o : Opx) : Prop where
  nm : o.nm.length ≤ maxLen
  data : Bs w o.vd o.data
  keep : Vs w o.vk (o.keep.map iv)
  dold : o.data ≠ [] → ∀ g, o.vd.ownBlock = some g → g < B
  kold : o.keep ≠ [] → ∀ g, o.vk.ownBlock = some g → g < B
theorem Vs.late {S : Nat → Prop} {w w' : World} {v : Value} {xs : List Value} (h : Vs w v xs) (t : Turn S w w') (hn : xs ≠ [] → ∀ g, v.ownBlock = some g → ¬ S g) : Vs w' v xs := by
  by_cases hB : xs = []
  · subst hB
    rcases h with ⟨e, _⟩ | ⟨A, C, e, h1, h2, h3⟩
    · exact Or.inl ⟨e, rfl⟩
    · exact Or.inr ⟨A, C, e, h1, h2, fun j u hu => by simp at hu⟩
  · exact h.turn t (hn hB)
theorem Ox.turn {B : Nat} {S : Nat → Prop} {w w' : World} {o : Opx} (h : Ox B w o) (t : Turn S w w') (hS : ∀ k, S k → B ≤ k) : Ox B w' o :=
  ⟨h.nm, h.data.late t (fun hne g hg q => by have := h.dold hne g hg; have := hS g q; omega), h.keep.late t (fun hne g hg q => by have := h.kold (fun e => hne (by rw [e]; rfl)) g hg; have := hS g q; omega), h.dold, h.kold⟩
theorem Ox.turn_no {B : Nat} {w w' : World} {o : Opx} (h : Ox B w o) (t : Turn no w w') : Ox B w' o := h.turn t (fun _ q => q.elim)

def doS (s : St) (o : Opx) : St × Int :=
  if o.kind = 1 then appS s o.nm o.data else if o.kind = 2 then syncS s o.nm else if o.kind = 3 then replS s o.nm o.data else if o.kind = 4 then cutS s o.nm o.n else if o.kind = 5 then remS s o.nm else if o.kind = 11 then armS s o.t else (s, 0)

theorem num10 (w : World) (x : Int) : Calls Try.prog 12 #[.int .i64 x] w fun e w' => e = .returned (.int .i64 x) ∧ w' = w := by
  go_enter Try.func12, Try.ntmps12
  go_wp2_with fail
  go_ret
  exact ⟨rfl, rfl⟩

section
variable {w : World} {p : Nat} {K : Nat → Prop} {s : St}
theorem Ans.of_no {w0 : World} {r : St × Int} {e : Ending} {w' : World} (t : Turn no w0 w) (h : Ans w p K r e w') : Ans w0 p K r e w' := by
  obtain ⟨rfl, K', h1, h2, h3⟩ := h
  exact ⟨rfl, K', h1, (From.refl w0 K).trans t h2, (t.of_no).trans h3 (fun _ _ q => q)⟩

end
end Go.Proofs.Ytcdogciacchigac
