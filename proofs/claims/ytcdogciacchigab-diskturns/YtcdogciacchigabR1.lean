/- The document's disk in memory. -/
import Derived.Test.YtcdogciacchigabR0
import Derived.Test.YtcdogciacchigabL0
namespace Go.Proofs.Ytcdogciacchigab
open Go.RowKit Go.Maps
set_option linter.unusedVariables false

/-- A list of the document's files, in blocks that R says. -/
def Fl (R : Nat → Prop) (w : World) (v : Value) (l : List Pf) : Prop :=
  ∃ vs, vs.length = l.length ∧ OwnN w 102 3 v l.length (tlC l vs) ∧ (∀ g, v.ownBlock = some g → R g) ∧ ∀ (j : Nat) (f : Pf) (u : Value), l[j]? = some f → vs[j]? = some u → Own w 5 u (f.bs.map bv) ∧ ∀ g, u.ownBlock = some g → R g
theorem Fl.nil (R : Nat → Prop) (w : World) : Fl R w (.slice none 0 0) [] := ⟨[], rfl, OwnN.nil w 102 3, (fun g hg => by cases hg), fun j f u hf => by simp at hf⟩
theorem Fl.mono {R R' : Nat → Prop} {w : World} {v : Value} {l : List Pf} (h : Fl R w v l) (hR : ∀ k, R k → R' k) : Fl R' w v l := by
  obtain ⟨vs, h1, h2, h3, h4⟩ := h
  exact ⟨vs, h1, h2, fun g hg => hR g (h3 g hg), fun j f u hf hu => ⟨(h4 j f u hf hu).1, fun g hg => hR g ((h4 j f u hf hu).2 g hg)⟩⟩
theorem Fl.turn {R S : Nat → Prop} {w w' : World} {v : Value} {l : List Pf} (h : Fl R w v l) (t : Turn S w w') (hS : ∀ k, R k → ¬ S k) : Fl R w' v l := by
  obtain ⟨vs, h1, h2, h3, h4⟩ := h
  refine ⟨vs, h1, h2.turn t (fun g hg q => hS g (h3 g hg) q), h3, fun j f u hf hu => ?_⟩
  obtain ⟨a, b⟩ := h4 j f u hf hu
  exact ⟨a.turn t (fun g hg q => hS g (b g hg) q), b⟩
theorem Fl.turn_no {R : Nat → Prop} {w w' : World} {v : Value} {l : List Pf} (h : Fl R w v l) (t : Turn no w w') : Fl R w' v l := h.turn t (fun _ _ q => q)
theorem Fl.slice {R : Nat → Prop} {w : World} {v : Value} {l : List Pf} (h : Fl R w v l) : ∃ a c, v = .slice a l.length c ∧ l.length ≤ c ∧ c ≤ maxLen := by
  obtain ⟨vs, _, h2, _⟩ := h
  rcases h2.2 with ⟨e, q⟩ | ⟨g, cap, cur, e, _, _, h1, h2, _⟩
  · exact ⟨none, 0, by rw [e, q], by omega, by simp⟩
  · exact ⟨_, _, e, h1, h2⟩
theorem Fl.at {R : Nat → Prop} {w : World} {v : Value} {l : List Pf} (h : Fl R w v l) (i : Nat) (f : Pf) (hf : l[i]? = some f) : ∃ g c a c', v = .slice (some ⟨g, 0, none⟩) l.length c ∧ w.cell? ⟨g, i * 3, none⟩ = some (strV f.nm) ∧ w.cell? ⟨g, i * 3 + 1, none⟩ = some (.slice a f.bs.length c') ∧ w.cell? ⟨g, i * 3 + 2, none⟩ = some (.int .i64 f.sy) ∧ Own w 5 (.slice a f.bs.length c') (f.bs.map bv) ∧ ∀ g, (Value.slice a f.bs.length c').ownBlock = some g → R g := by
  obtain ⟨vs, h1, h2, h3, h4⟩ := h
  have hil := (List.getElem?_eq_some_iff.1 hf).1
  obtain ⟨u, hu⟩ : ∃ u, vs[i]? = some u := ⟨vs[i]'(by omega), List.getElem?_eq_getElem _⟩
  obtain ⟨hO, hR⟩ := h4 i f u hf hu
  obtain ⟨a, c', rfl⟩ := hO.bs.slice
  obtain ⟨e0, e1, e2⟩ := tlC_at l vs h1 i f _ hf hu
  rcases h2.2 with ⟨_, q⟩ | ⟨g, cap, cur, rfl, _⟩
  · omega
  · have hc : ∀ j x, (tlC l vs)[j]? = some x → w.cell? ⟨g, j, none⟩ = some x := fun j x hx => by
      have := World.ownsRow.cells h2 (g := g) rfl j x hx
      simpa [Addr.add_lit] using this
    exact ⟨g, cap, a, c', rfl, hc _ _ e0, hc _ _ e1, hc _ _ e2, hO, hR⟩
theorem infoFT : (Try.prog.info? 102).map (fun i => (i.zero, i.size, i.bytes)) = some (some (.agg #[.string ⟨#[]⟩, .slice none 0 0, .int .i64 0]), 3, 48) := by kernel_rfl
theorem Fl.push {R : Nat → Prop} {W : World} {iw : Value} {l : List Pf} (h : Fl R W iw l) (hl : (l.length + 1) * 48 ≤ 140737488355328) (f : Pf) (u : Value) (hu : Own W 5 u (f.bs.map bv)) (hub : ∀ g, u.ownBlock = some g → R g) (x : Value) (hx : Src Try.prog 3 90 x 1 [strV f.nm, u, .int .i64 f.sy] W) :
    ∃ iw' w', (∀ ty, (Builtin.append_ #[90, 90] ty #[iw, x]).run Try.prog W = .ok iw' w') ∧ Fl (fun k => R k ∨ (W.heap.size ≤ k ∧ k < w'.heap.size)) w' iw' (l ++ [f]) ∧ Grew W w' iw iw' := by
  obtain ⟨vs, h1, h2, h3, h4⟩ := h
  obtain ⟨iw', w', hr, ho, hg⟩ := run_append_srcN (P := Try.prog) (t := 90) (tx := 90) Try.underlying90 infoFT rfl (by omega) 90 W iw l.length (tlC l vs) h2 x 1 [strV f.nm, u, .int .i64 f.sy] hx (by omega) (by simp only [maxLen]; omega)
  have hT := hg.turn
  have hne : ∀ {y xs}, Own W 5 y xs → ∀ g, y.ownBlock = some g → iw.ownBlock ≠ some g := fun hy g hg' q => by
    obtain ⟨c1, e1⟩ := hy.obj hg'
    obtain ⟨c2, e2⟩ := h2.obj q
    exact absurd (tag_ne e1 e2) (by decide)
  refine ⟨iw', w', fun ty => hr, ⟨vs ++ [u], by simp [h1], ?_, fun g q => ?_, fun j f' y hf hy => ?_⟩, hg⟩
  · rw [tlC_snoc l vs f u h1]
    simpa using ho
  · rcases hg.blk with e | ⟨g', e, e1, e2⟩
    · exact Or.inl (h3 g (by rw [← e]; exact q))
    · rw [e] at q; cases q; exact Or.inr ⟨e1, e2⟩
  · by_cases hj : j < l.length
    · rw [List.getElem?_append_left hj] at hf
      rw [List.getElem?_append_left (by omega)] at hy
      obtain ⟨a, b⟩ := h4 j f' y hf hy
      exact ⟨a.turn hT (fun g hg' q => hne a g hg' q), fun g hg' => Or.inl (b g hg')⟩
    · have hj2 : j = l.length := by
        have := (List.getElem?_eq_some_iff.1 hf).1
        simp at this
        omega
      subst hj2
      rw [List.getElem?_append_right (Nat.le_refl _)] at hf
      rw [List.getElem?_append_right (by omega), h1] at hy
      simp at hf hy
      subst hf hy
      exact ⟨hu.turn hT (fun g hg' q => hne hu g hg' q), fun g hg' => Or.inl (hub g hg')⟩
theorem src_fl (w : World) (nm : Nm) (u : Value) (sy : Nat) (hu : u.oneCell' = true) : Src Try.prog 3 90 (.slice (some ⟨w.heap.size, 0, none⟩) 1 1) 1 [strV nm, u, .int .i64 sy] (w.alloc (.cells #[strV nm, u, .int .i64 sy] 102)) :=
  Src.ofSlice _ Try.underlying90 _ _ _ _ rfl (fun j x hx => by
    have := (Row.new w #[strV nm, u, .int .i64 sy] 102).cell j x (by simpa using hx)
    simpa [Addr.add_lit] using this) (fun x hx => by
    simp at hx
    rcases hx with rfl | rfl | rfl
    · rfl
    · exact hu
    · rfl)
/-- A list of files under way, in R's blocks and in new ones. -/
structure Wk (B : Nat) (R : Nat → Prop) (w wr : World) (v : Value) (l : List Pf) : Prop where
  fl : Fl (fun k => R k ∨ (B ≤ k ∧ k < wr.heap.size)) wr v l
  new : ∀ g, v.ownBlock = some g → B ≤ g
  turn : Turn no w wr
  at_ : B = w.heap.size
theorem Wk.start (R : Nat → Prop) (w : World) : Wk w.heap.size R w w (.slice none 0 0) [] := ⟨Fl.nil _ _, (fun g hg => by cases hg), Turn.refl _ _, rfl⟩
theorem Wk.then_no {B : Nat} {R : Nat → Prop} {w wr W : World} {v : Value} {l : List Pf} (h : Wk B R w wr v l) (t : Turn no wr W) : Wk B R w W v l :=
  ⟨(h.fl.turn_no t).mono (fun k hk => hk.imp id (fun q => ⟨q.1, Nat.lt_of_lt_of_le q.2 t.size⟩)), h.new, h.turn.then_no t, h.at_⟩
theorem Wk.step {B : Nat} {R : Nat → Prop} {w wr W : World} {v : Value} {l : List Pf} (h : Wk B R w wr v l) (t : Turn no wr W) (hl : (l.length + 1) * 48 ≤ 140737488355328) (f : Pf) (u : Value) (hu : Own W 5 u (f.bs.map bv)) (hub : ∀ g, u.ownBlock = some g → R g ∨ (B ≤ g ∧ g < W.heap.size)) (h1 : u.oneCell' = true) :
    ∃ v' w6, (∀ ty, (Builtin.append_ #[90, 90] ty #[v, .slice (some ⟨W.heap.size, 0, none⟩) 1 1]).run Try.prog (W.alloc (.cells #[strV f.nm, u, .int .i64 f.sy] 102)) = .ok v' w6) ∧ Wk B R w w6 v' (l ++ [f]) := by
  have ta : Turn no W (W.alloc (.cells #[strV f.nm, u, .int .i64 f.sy] 102)) := (Turn.refl no W).alloc _
  have hS := h.then_no (t.then_no ta)
  have hsz := hS.turn.size
  have hta := ta.size
  have hB := h.at_
  obtain ⟨v', w6, hr, hI, hG⟩ := hS.fl.push hl f u (hu.turn_no ta) (fun g hg => (hub g hg).imp id (fun q => ⟨q.1, by omega⟩)) _ (src_fl W f.nm u f.sy h1)
  have h6 := hG.turn.size
  refine ⟨v', w6, hr, ⟨hI.mono (fun k hk => ?_), fun g hg => ?_, hS.turn.trans hG.turn (fun k hk q => by have := h.new k q; omega), hB⟩⟩
  · rcases hk with (q | q) | q
    · exact Or.inl q
    · exact Or.inr ⟨q.1, by omega⟩
    · exact Or.inr ⟨by omega, q.2⟩
  · rcases hG.blk with e | ⟨g', e, e1, _⟩
    · exact h.new g (by rw [← e]; exact hg)
    · rw [e] at hg; cases hg; omega

/-- The troubles' cells. -/
def amC (l : List (Int × Tr)) : List Value := l.flatMap (fun a => [.int .i64 a.1, .int .i64 a.2.when, .int .i64 a.2.kind, .bool a.2.done])
theorem amC_at (l : List (Int × Tr)) (j : Nat) (a : Int × Tr) (h : l[j]? = some a) : (amC l)[j * 4]? = some (.int .i64 a.1) ∧ (amC l)[j * 4 + 1]? = some (.int .i64 a.2.when) ∧ (amC l)[j * 4 + 2]? = some (.int .i64 a.2.kind) ∧ (amC l)[j * 4 + 3]? = some (.bool a.2.done) := by
  induction l generalizing j with
  | nil => simp at h
  | cons x r ih =>
    have e : amC (x :: r) = .int .i64 x.1 :: .int .i64 x.2.when :: .int .i64 x.2.kind :: .bool x.2.done :: amC r := by simp [amC]
    rw [e]
    cases j with
    | zero => simp at h; subst h; simp
    | succ j =>
      have := ih j (by simpa using h)
      have e0 : (j + 1) * 4 = (((j * 4 + 1) + 1) + 1) + 1 := by omega
      have e1 : (j + 1) * 4 + 1 = ((((j * 4 + 1) + 1) + 1) + 1) + 1 := by omega
      have e2 : (j + 1) * 4 + 2 = ((((j * 4 + 2) + 1) + 1) + 1) + 1 := by omega
      have e3 : (j + 1) * 4 + 3 = ((((j * 4 + 3) + 1) + 1) + 1) + 1 := by omega
      rw [e1, e2, e3, e0]
      simp only [List.getElem?_cons_succ]
      exact this
theorem amC_snoc (l : List (Int × Tr)) (a : Int × Tr) : amC (l ++ [a]) = amC l ++ [.int .i64 a.1, .int .i64 a.2.when, .int .i64 a.2.kind, .bool a.2.done] := by simp [amC]
theorem infoAT : (Try.prog.info? 121).map (fun i => (i.zero, i.size, i.bytes)) = some (some (.agg #[.int .i64 0, .int .i64 0, .int .i64 0, .bool false]), 4, 32) := by kernel_rfl
/-- The list of the troubles. -/
def Al (R : Nat → Prop) (w : World) (v : Value) (l : List (Int × Tr)) : Prop := OwnN w 121 4 v l.length (amC l) ∧ ∀ g, v.ownBlock = some g → R g
theorem Al.nil (R : Nat → Prop) (w : World) : Al R w (.slice none 0 0) [] := ⟨OwnN.nil w 121 4, (fun g hg => by cases hg)⟩
theorem Al.mono {R R' : Nat → Prop} {w : World} {v : Value} {l : List (Int × Tr)} (h : Al R w v l) (hR : ∀ k, R k → R' k) : Al R' w v l := ⟨h.1, fun g hg => hR g (h.2 g hg)⟩
theorem Al.turn {R S : Nat → Prop} {w w' : World} {v : Value} {l : List (Int × Tr)} (h : Al R w v l) (t : Turn S w w') (hS : ∀ k, R k → ¬ S k) : Al R w' v l := ⟨h.1.turn t (fun g hg q => hS g (h.2 g hg) q), h.2⟩
theorem Al.turn_no {R : Nat → Prop} {w w' : World} {v : Value} {l : List (Int × Tr)} (h : Al R w v l) (t : Turn no w w') : Al R w' v l := h.turn t (fun _ _ q => q)
theorem Al.slice {R : Nat → Prop} {w : World} {v : Value} {l : List (Int × Tr)} (h : Al R w v l) : ∃ a c, v = .slice a l.length c := by
  obtain ⟨a, c, e, _⟩ := h.1.form
  exact ⟨a, c, e⟩
theorem Al.at {R : Nat → Prop} {w : World} {v : Value} {l : List (Int × Tr)} (h : Al R w v l) (i : Nat) (a : Int × Tr) (hf : l[i]? = some a) : ∃ g c, v = .slice (some ⟨g, 0, none⟩) l.length c ∧ w.cell? ⟨g, i * 4, none⟩ = some (.int .i64 a.1) ∧ w.cell? ⟨g, i * 4 + 1, none⟩ = some (.int .i64 a.2.when) ∧ w.cell? ⟨g, i * 4 + 2, none⟩ = some (.int .i64 a.2.kind) ∧ w.cell? ⟨g, i * 4 + 3, none⟩ = some (.bool a.2.done) := by
  have hil := (List.getElem?_eq_some_iff.1 hf).1
  obtain ⟨e0, e1, e2, e3⟩ := amC_at l i a hf
  rcases h.1.2 with ⟨_, q⟩ | ⟨g, cap, cur, rfl, _⟩
  · omega
  · have hc : ∀ j x, (amC l)[j]? = some x → w.cell? ⟨g, j, none⟩ = some x := fun j x hx => by
      have := World.ownsRow.cells h.1 (g := g) rfl j x hx
      simpa [Addr.add_lit] using this
    exact ⟨g, cap, rfl, hc _ _ e0, hc _ _ e1, hc _ _ e2, hc _ _ e3⟩
theorem Al.push {R : Nat → Prop} {W : World} {v : Value} {l : List (Int × Tr)} (h : Al R W v l) (hl : (l.length + 1) * 32 ≤ 140737488355328) (a : Int × Tr) (x : Value) (hx : Src Try.prog 4 91 x 1 [.int .i64 a.1, .int .i64 a.2.when, .int .i64 a.2.kind, .bool a.2.done] W) :
    ∃ v' w', (∀ ty, (Builtin.append_ #[91, 91] ty #[v, x]).run Try.prog W = .ok v' w') ∧ Al (fun k => R k ∨ (W.heap.size ≤ k ∧ k < w'.heap.size)) w' v' (l ++ [a]) ∧ Grew W w' v v' := by
  obtain ⟨v', w', hr, ho, hg⟩ := run_append_srcN (P := Try.prog) (t := 91) (tx := 91) Try.underlying91 infoAT rfl (by omega) 91 W v l.length (amC l) h.1 x 1 _ hx (by omega) (by simp only [maxLen]; omega)
  refine ⟨v', w', fun ty => hr, ⟨by rw [amC_snoc]; simpa using ho, fun g q => ?_⟩, hg⟩
  rcases hg.blk with e | ⟨g', e, e1, e2⟩
  · exact Or.inl (h.2 g (by rw [← e]; exact q))
  · rw [e] at q; cases q; exact Or.inr ⟨e1, e2⟩
theorem src_am (w : World) (a : Int × Tr) : Src Try.prog 4 91 (.slice (some ⟨w.heap.size, 0, none⟩) 1 1) 1 [.int .i64 a.1, .int .i64 a.2.when, .int .i64 a.2.kind, .bool a.2.done] (w.alloc (.cells #[.int .i64 a.1, .int .i64 a.2.when, .int .i64 a.2.kind, .bool a.2.done] 121)) :=
  Src.ofSlice _ Try.underlying91 _ _ _ _ rfl (fun j x hx => by
    have := (Row.new w #[.int .i64 a.1, .int .i64 a.2.when, .int .i64 a.2.kind, .bool a.2.done] 121).cell j x (by simpa using hx)
    simpa [Addr.add_lit] using this) (fun x hx => by
    simp at hx
    rcases hx with rfl | rfl | rfl | rfl <;> rfl)

def rdC (lim n : Nat) (fv av : Value) (off out : Bool) : Array Value := #[.bool true, .int .i64 lim, fv, .int .i64 n, .bool off, .bool out, av]
/-- The document's disk at q, in the blocks K. -/
structure Rp (w : World) (q : Nat) (K : Nat → Prop) (fv av : Value) (s : St) : Prop where
  inv : Inv s
  am : s.arms.length ≤ s.m
  row : Row w q (rdC s.lim s.n fv av s.off s.out) 93
  kp : K q
  klt : ∀ k, K k → k < w.heap.size
  files : Fl K w fv s.fs
  arms : Al K w av s.arms
def Rk (w : World) (q : Nat) (K : Nat → Prop) (s : St) : Prop := ∃ fv av, Rp w q K fv av s
theorem Rp.turn {S : Nat → Prop} {w w' : World} {q : Nat} {K : Nat → Prop} {fv av : Value} {s : St} (h : Rp w q K fv av s) (t : Turn S w w') (hn : ∀ k, K k → ¬ S k) : Rp w' q K fv av s :=
  ⟨h.inv, h.am, h.row.turn t (hn _ h.kp), h.kp, fun k hk => Nat.lt_of_lt_of_le (h.klt k hk) t.size, h.files.turn t hn, h.arms.turn t hn⟩
theorem Rk.turn {S : Nat → Prop} {w w' : World} {q : Nat} {K : Nat → Prop} {s : St} (h : Rk w q K s) (t : Turn S w w') (hn : ∀ k, K k → ¬ S k) : Rk w' q K s := by
  obtain ⟨fv, av, h⟩ := h
  exact ⟨fv, av, h.turn t hn⟩
theorem Rk.turn_no {w w' : World} {q : Nat} {K : Nat → Prop} {s : St} (h : Rk w q K s) (t : Turn no w w') : Rk w' q K s := h.turn t (fun _ _ q => q)
section
variable {w : World} {q : Nat} {K : Nat → Prop} {fv av : Value} {s : St}
theorem Rp.c0 (h : Rp w q K fv av s) : w.cell? ⟨q, 0, none⟩ = some (.bool true) := h.row.cell 0 _ rfl
theorem Rp.c1 (h : Rp w q K fv av s) : w.cell? ⟨q, 1, none⟩ = some (.int .i64 s.lim) := h.row.cell 1 _ rfl
theorem Rp.c2 (h : Rp w q K fv av s) : w.cell? ⟨q, 2, none⟩ = some fv := h.row.cell 2 _ rfl
theorem Rp.c3 (h : Rp w q K fv av s) : w.cell? ⟨q, 3, none⟩ = some (.int .i64 s.n) := h.row.cell 3 _ rfl
theorem Rp.c4 (h : Rp w q K fv av s) : w.cell? ⟨q, 4, none⟩ = some (.bool s.off) := h.row.cell 4 _ rfl
theorem Rp.c5 (h : Rp w q K fv av s) : w.cell? ⟨q, 5, none⟩ = some (.bool s.out) := h.row.cell 5 _ rfl
theorem Rp.c6 (h : Rp w q K fv av s) : w.cell? ⟨q, 6, none⟩ = some av := h.row.cell 6 _ rfl
end
/-- K, and the blocks that are new. -/
def grownK (w w' : World) (K : Nat → Prop) : Nat → Prop := fun k => K k ∨ (w.heap.size ≤ k ∧ k < w'.heap.size)
theorem grownK.from (w w' : World) (K : Nat → Prop) : From w K (grownK w w' K) := fun k h => h.imp id (fun q => q.1)
/-- What a call of the document's disk answers, and what it leaves. -/
def Rns (w : World) (q : Nat) (K : Nat → Prop) (r : St × Int) (e : Ending) (w' : World) : Prop := e = .returned (.int .i64 r.2) ∧ ∃ K', Rk w' q K' r.1 ∧ From w K K' ∧ Turn K w w'
end Go.Proofs.Ytcdogciacchigab
