/- An op of a script; does. -/
import Derived.Test.YtcdogciacchigabM9
import Derived.Test.YtcdogciacchigabM10
import Derived.Test.YtcdogciacchigabM11
namespace Go.Proofs.Ytcdogciacchigab
open Go.RowKit Go.Maps
set_option linter.unusedVariables false

/-- A slice of values of one cell, wherever it lies. -/
def Vs (w : World) (v : Value) (xs : List Value) : Prop :=
  (v = .slice none 0 0 ∧ xs = []) ∨ ∃ a cap, v = .slice (some a) xs.length cap ∧ xs.length ≤ cap ∧ cap ≤ maxLen ∧ ∀ j u, xs[j]? = some u → w.cell? (a.add j) = some u
theorem Vs.turn {S : Nat → Prop} {w w' : World} {v : Value} {xs : List Value} (h : Vs w v xs) (ht : Turn S w w') (hn : ∀ g, v.ownBlock = some g → ¬ S g) : Vs w' v xs := by
  rcases h with q | ⟨a, cap, rfl, h1, h2, h3⟩
  · exact Or.inl q
  · refine Or.inr ⟨a, cap, rfl, h1, h2, fun j u hu => ht.keep (h3 j u hu) ?_⟩
    have : (a.add j).block = a.block := by unfold Addr.add; split <;> rfl
    rw [this]
    exact hn _ rfl
theorem Vs.turn_no {w w' : World} {v : Value} {xs : List Value} (h : Vs w v xs) (ht : Turn no w w') : Vs w' v xs := h.turn ht (fun _ _ q => q)
theorem Vs.slice {w : World} {v : Value} {xs : List Value} (h : Vs w v xs) : ∃ a cap, v = .slice a xs.length cap := by
  rcases h with ⟨rfl, rfl⟩ | ⟨a, cap, rfl, _⟩
  · exact ⟨none, 0, rfl⟩
  · exact ⟨some a, cap, rfl⟩
theorem Vs.le {w : World} {v : Value} {xs : List Value} (h : Vs w v xs) : xs.length ≤ maxLen := by
  rcases h with ⟨_, rfl⟩ | ⟨_, _, _, h1, h2, _⟩
  · exact Nat.zero_le _
  · omega
theorem Vs.at {w : World} {v : Value} {xs : List Value} (h : Vs w v xs) (hp : 0 < xs.length) :
    ∃ b off cap, v = .slice (some ⟨b, off, none⟩) xs.length cap ∧ xs.length ≤ cap ∧ ∀ j u, xs[j]? = some u → w.cell? ⟨b, off + j, none⟩ = some u := by
  rcases h with ⟨_, rfl⟩ | ⟨⟨b, off, spot⟩, cap, rfl, h1, _, h3⟩
  · simp at hp
  · have hs : spot = none := by
      have := World.cell?_spot (h3 0 xs[0] (by simp [hp]))
      simpa [Addr.add] using this
    subst hs
    refine ⟨b, off, cap, rfl, h1, fun j u hu => ?_⟩
    have := h3 j u hu
    rw [Addr.add_lit] at this
    exact this
def iv (x : Int) : Value := .int .i64 x

/-- An op. -/
structure Opx where
  kind : Int
  who : Int
  nm : Nm
  vd : Value
  data : List UInt8
  n : Int
  t : Tr
  vk : Value
  keep : List Int
  junk : UInt8
def opC (o : Opx) : Array Value := #[.int .i64 o.kind, .int .i64 o.who, strV o.nm, o.vd, .int .i64 o.n, .int .i64 o.t.when, .int .i64 o.t.kind, .bool o.t.done, o.vk, .int .u8 o.junk.toNat]
structure Ox (B : Nat) (w : World) (o : Opx) : Prop where
  nm : o.nm.length ≤ maxLen
  data : Bs w o.vd o.data
  keep : Vs w o.vk (o.keep.map iv)
  dold : o.data ≠ [] → ∀ g, o.vd.ownBlock = some g → g < B
  kold : o.keep ≠ [] → ∀ g, o.vk.ownBlock = some g → g < B
theorem Vs.late {S : Nat → Prop} {w w' : World} {v : Value} {xs : List Value} (h : Vs w v xs) (t : Turn S w w') (hn : xs ≠ [] → ∀ g, v.ownBlock = some g → ¬ S g) : Vs w' v xs := by
  by_cases hB : xs = []
  · subst hB
    rcases h with ⟨e, _⟩ | ⟨A, C, e, h1, h2, h3⟩
    · exact Or.inl ⟨e, rfl⟩
    · exact Or.inr ⟨A, C, e, h1, h2, fun j u hu => by simp at hu⟩
  · exact h.turn t (hn hB)
theorem Ox.turn {B : Nat} {S : Nat → Prop} {w w' : World} {o : Opx} (h : Ox B w o) (t : Turn S w w') (hS : ∀ k, S k → B ≤ k) : Ox B w' o :=
  ⟨h.nm, h.data.late t (fun hne g hg q => by have := h.dold hne g hg; have := hS g q; omega), h.keep.late t (fun hne g hg q => by have := h.kold (fun e => hne (by rw [e]; rfl)) g hg; have := hS g q; omega), h.dold, h.kold⟩
theorem Ox.turn_no {B : Nat} {w w' : World} {o : Opx} (h : Ox B w o) (t : Turn no w w') : Ox B w' o := h.turn t (fun _ q => q.elim)

def doS (s : St) (o : Opx) : St × Int :=
  if o.kind = 1 then appS s o.nm o.data else if o.kind = 2 then syncS s o.nm else if o.kind = 3 then replS s o.nm o.data else if o.kind = 4 then cutS s o.nm o.n else if o.kind = 5 then remS s o.nm else if o.kind = 11 then armS s o.t else (s, 0)

theorem num10 (w : World) (x : Int) : Calls Try.prog 12 #[.int .i64 x] w fun e w' => e = .returned (.int .i64 x) ∧ w' = w := by
  go_enter Try.func12, Try.ntmps12
  go_wp2_with fail
  go_ret
  exact ⟨rfl, rfl⟩

section
variable {w : World} {p : Nat} {K : Nat → Prop} {s : St}
theorem Ans.of_no {w0 : World} {r : St × Int} {e : Ending} {w' : World} (t : Turn no w0 w) (h : Ans w p K r e w') : Ans w0 p K r e w' := by
  obtain ⟨rfl, K', h1, h2, h3⟩ := h
  exact ⟨rfl, K', h1, (From.refl w0 K).trans t h2, (t.of_no).trans h3 (fun _ _ q => q)⟩

set_option maxRecDepth 100000 in
set_option maxHeartbeats 4000000 in
theorem does18 (hk : Dk w p K s) (hn : s.n < 4611686018427387904) (hm : s.m < 4611686018427387904) (B : Nat) (hKB : ∀ k, K k → B ≤ k) (o : Opx) (ho : Ox B w o) :
    Calls Try.prog 10 #[ptr p, .agg (opC o)] w (Ans w p K (doS s o)) := by
  have T1 : Turn no w (w.alloc (.cells (opC o) 33)) := (Turn.refl no w).alloc _
  have r0 : Row (w.alloc (.cells (opC o) 33)) w.heap.size (opC o) 33 := Row.new w _ 33
  have hk1 := hk.turn_no T1
  have ho1 := ho.turn_no T1
  obtain ⟨va, vc, hvs⟩ := ho.data.slice
  obtain ⟨ka, kn, kc, hks⟩ : ∃ ka kn kc, o.vk = .slice ka kn kc := by
    obtain ⟨a, c, e⟩ := ho.keep.slice
    exact ⟨_, _, _, e⟩
  have hvK : o.data ≠ [] → ∀ g, o.vd.ownBlock = some g → ¬ K g := fun hne g hg q => by have := ho.dold hne g hg; have := hKB g q; omega
  have f1 := append12 hk1 hn o.nm ho.nm o.vd o.data ho1.data hvK
  have f2 := sync42 hk1 hn o.nm ho.nm
  have f3 := replace43 hk1 hn o.nm ho.nm o.vd o.data ho1.data hvK
  have f4 := cut44 hk1 hn o.nm ho.nm o.n
  have f5 := remove45 hk1 hn o.nm ho.nm
  have f6 : Calls Try.prog 13 #[ptr p, trV o.t] (w.alloc (.cells (opC o) 33)) (Ans (w.alloc (.cells (opC o) 33)) p K (armS s o.t)) := (arm11 hk1 hn hm o.t).mono (fun e w' h => ⟨h.1, K, h.2.1, From.refl _ K, h.2.2⟩)
  have c0 := r0.cell 0 _ rfl
  have c2 := r0.cell 2 _ rfl
  have c3 := r0.cell 3 _ rfl
  have c4 := r0.cell 4 _ rfl
  have c5 := r0.cell 5 _ rfl
  have c6 := r0.cell 6 _ rfl
  have c7 := r0.cell 7 _ rfl
  have fin := fun (r : St × Int) e w' (h : Ans (w.alloc (.cells (opC o) 33)) p K r e w') => Ans.of_no T1 h
  have hsame : Ans w p K (s, 0) (.returned (.int .i64 0)) (w.alloc (.cells (opC o) 33)) := Ans.same (r := (s, 0)) hk T1
  obtain ⟨kind, who, nm, vd, data, n, t, vk, keep, junk⟩ := o
  simp only at hvs hks
  subst hvs hks
  simp only at *
  generalize hw1 : w.alloc (.cells (opC ⟨kind, who, nm, .slice va data.length vc, data, n, t, .slice ka kn kc, keep, junk⟩) 33) = w1 at *
  unfold opC at *
  simp only at *
  clear ho ho1 hk hk1 r0 T1
  unfold ptr strV trV at *
  by_cases k1 : kind = 1
  · subst k1
    have e : doS s ⟨1, who, nm, .slice va data.length vc, data, n, t, .slice ka kn kc, keep, junk⟩ = appS s nm data := by simp [doS]
    rw [e]
    go_enter Try.func10, Try.ntmps10
    go_wp2_with fail
    refine f1.mono ?_
    intro e w2 hA
    have hA' := fin _ _ _ hA
    obtain ⟨rfl, _⟩ := hA
    go_wp2_with fail
    go_ret
    exact hA'
  have k1' : (kind == 1) = false := by simpa using k1
  by_cases k2 : kind = 2
  · subst k2
    have e : doS s ⟨2, who, nm, .slice va data.length vc, data, n, t, .slice ka kn kc, keep, junk⟩ = syncS s nm := by simp [doS]
    rw [e]
    go_enter Try.func10, Try.ntmps10
    go_wp2_with fail
    refine f2.mono ?_
    intro e w2 hA
    have hA' := fin _ _ _ hA
    obtain ⟨rfl, _⟩ := hA
    go_wp2_with fail
    go_ret
    exact hA'
  have k2' : (kind == 2) = false := by simpa using k2
  by_cases k3 : kind = 3
  · subst k3
    have e : doS s ⟨3, who, nm, .slice va data.length vc, data, n, t, .slice ka kn kc, keep, junk⟩ = replS s nm data := by simp [doS]
    rw [e]
    go_enter Try.func10, Try.ntmps10
    go_wp2_with fail
    refine f3.mono ?_
    intro e w2 hA
    have hA' := fin _ _ _ hA
    obtain ⟨rfl, _⟩ := hA
    go_wp2_with fail
    go_ret
    exact hA'
  have k3' : (kind == 3) = false := by simpa using k3
  by_cases k4 : kind = 4
  · subst k4
    have e : doS s ⟨4, who, nm, .slice va data.length vc, data, n, t, .slice ka kn kc, keep, junk⟩ = cutS s nm n := by simp [doS]
    rw [e]
    go_enter Try.func10, Try.ntmps10
    go_wp2_with fail
    refine f4.mono ?_
    intro e w2 hA
    have hA' := fin _ _ _ hA
    obtain ⟨rfl, _⟩ := hA
    go_wp2_with fail
    go_ret
    exact hA'
  have k4' : (kind == 4) = false := by simpa using k4
  by_cases k5 : kind = 5
  · subst k5
    have e : doS s ⟨5, who, nm, .slice va data.length vc, data, n, t, .slice ka kn kc, keep, junk⟩ = remS s nm := by simp [doS]
    rw [e]
    go_enter Try.func10, Try.ntmps10
    go_wp2_with fail
    refine f5.mono ?_
    intro e w2 hA
    have hA' := fin _ _ _ hA
    obtain ⟨rfl, _⟩ := hA
    go_wp2_with fail
    go_ret
    exact hA'
  have k5' : (kind == 5) = false := by simpa using k5
  by_cases k6 : kind = 11
  · subst k6
    have e : doS s ⟨11, who, nm, .slice va data.length vc, data, n, t, .slice ka kn kc, keep, junk⟩ = armS s t := by simp [doS]
    rw [e]
    go_enter Try.func10, Try.ntmps10
    go_wp2_with fail
    refine f6.mono ?_
    intro e w2 hA
    have hA' := fin _ _ _ hA
    obtain ⟨rfl, _⟩ := hA
    go_wp2_with fail
    go_ret
    exact hA'
  have k6' : (kind == 11) = false := by simpa using k6
  have e : doS s ⟨kind, who, nm, .slice va data.length vc, data, n, t, .slice ka kn kc, keep, junk⟩ = (s, 0) := by simp [doS, k1, k2, k3, k4, k5, k6]
  rw [e]
  clear k1 k2 k3 k4 k5 k6
  go_enter Try.func10, Try.ntmps10
  go_wp2_with fail
  go_ret
  exact hsame
end
end Go.Proofs.Ytcdogciacchigab
