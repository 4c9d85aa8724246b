/- The end of a log's life, the next one, what holds at the head of each life. -/
import Derived.Test.YtbkbecjgphjpkabDoorG8
import Derived.Test.YtbkbecjgphjpkabDoorQ4
/- The end of a log's life: Crash beside the law's lists. -/
namespace Go.Proofs.YtbkbecjgphjpkabDoor
open Go.RowKit Go.Maps
set_option linter.unusedVariables false

/-- An image that tells a log of which all that was told as synced is left. -/
def Left (fl : List Fi) (here may : List (List UInt8)) (safe : Nat) : Prop :=
  ∀ l : List Fx, l.map (fun f => (f.nm, f.bs)) = fl → mOk 1048576 l = true ∧ ∃ x, Bt (mSt 1048576 l) x ∧ (mSt 1048576 l).n = 0 ∧ safe ≤ x.length ∧ ((x.length ≤ here.length ∧ x = here.take x.length) ∨ x = here ++ may)
section
variable {Wb w : World} {P : Nat → Prop} {q p : Nat} {vh vm : Value} {ts ms : List It} {here may : List (List UInt8)} {safe c y n : Nat} {d : Bool}
theorem Lw.crash (h : Lw Wb P w q p vh vm ts ms here may safe c y d n) (hm : may.length ≤ 1) (vk : Value) (keep : Int) (hkeep : Vs w vk ([keep].map iv)) (junk : UInt8) :
    Calls Tryd.prog 12 #[ptr p, vk, .int .u8 junk.toNat] w fun e w' => ∃ v fl, e = .returned (.tuple #[.agg #[v], .int .i64 0]) ∧ Im w.heap.size w' v fl ∧ (∀ f ∈ fl, f.1.length ≤ maxLen) ∧ Left fl here may safe ∧ Hr w' vh ts ∧ Hr w' vm ms ∧ (∀ k, hfoot vh ts k ∨ hfoot vm ms k → ¬ P k) ∧ Turn (fun k => ¬ P k) Wb w' := by
  obtain ⟨M, s, h1, h2, h3, h4, h5, h6, h7, h8, h9, h10, h11⟩ := h
  have hI : Inv s := by
    obtain ⟨bf, bt, V, k⟩ := h1
    exact k.inv
  have hnm : ∀ f ∈ crashL s.fs [keep] junk, f.1.length ≤ maxLen := by
    obtain ⟨l, sy, _, _, hF, _⟩ := h9.file
    intro f hf
    rcases hF with ⟨e, _⟩ | e
    · rw [e] at hf; simp [crashL] at hf
    · rw [e] at hf
      simp [crashL] at hf
      rw [hf]
      exact nm0_len
  refine (crash15 h1 h9.in_ vk [keep] hkeep junk).mono ?_
  rintro e w' ⟨v, rfl, im, _, t⟩
  refine ⟨v, _, rfl, im, hnm, fun l hl => h9.mount hm hI keep junk l hl, h6.turn t (fun k z z' => (h8 k (Or.inl z)).2.1 z'), h7.turn t (fun k z z' => (h8 k (Or.inr z)).2.1 z'), fun k z => (h8 k z).1, h11.trans t (fun i _ z => h2 i z)⟩
end
end Go.Proofs.YtbkbecjgphjpkabDoor
/- An image of Crash, as Mount takes it. -/
namespace Go.Proofs.YtbkbecjgphjpkabDoor
open Go.RowKit Go.Maps
set_option linter.unusedVariables false

def fxs (fl : List Fi) (vs : List Value) : List Fx := (fl.zip vs).map (fun x => ⟨x.1.1, x.2, x.1.2⟩)
theorem fxs_at {fl : List Fi} {vs : List Value} {j : Nat} {f : Fx} (h : (fxs fl vs)[j]? = some f) : fl[j]? = some (f.nm, f.bs) ∧ vs[j]? = some f.vb := by
  unfold fxs at h
  rw [List.getElem?_map, Option.map_eq_some_iff] at h
  obtain ⟨⟨⟨a, b⟩, u⟩, h1, rfl⟩ := h
  rw [List.getElem?_zip_eq_some] at h1
  exact h1
theorem Im.fs {B : Nat} {w : World} {v : Value} {fl : List Fi} (h : Im B w v fl) (hn : ∀ f ∈ fl, f.1.length ≤ maxLen) :
    ∃ a cap l, v = .slice a l.length cap ∧ l.map (fun f => (f.nm, f.bs)) = fl ∧ Fs w.heap.size w a cap l := by
  obtain ⟨vs, h1, h2, h3, h4⟩ := h
  obtain ⟨a, cap, rfl, _, q1, q2, q3⟩ := h2.form
  have hl : (fxs fl vs).length = fl.length := by simp [fxs, h1]
  refine ⟨a, cap, fxs fl vs, by rw [hl], ?_, ⟨by omega, q3, fun f hf => ?_, fun j f hj => ?_⟩⟩
  · unfold fxs
    rw [List.map_map]
    have : ((fun f : Fx => (f.nm, f.bs)) ∘ fun x : Fi × Value => (⟨x.1.1, x.2, x.1.2⟩ : Fx)) = Prod.fst := by funext x; rfl
    rw [this, List.map_fst_zip (by omega)]
  · obtain ⟨j, hj⟩ := List.getElem?_of_mem hf
    obtain ⟨e1, e2⟩ := fxs_at hj
    have o := (h4 j _ _ e1 e2).1
    exact ⟨hn _ (List.mem_of_getElem? e1), o.bs, fun _ g hg => o.lt hg⟩
  · obtain ⟨e1, e2⟩ := fxs_at hj
    obtain ⟨i1, i2⟩ := imC_at fl vs h1 j _ _ e1 e2
    have hjl : j < fl.length := by
      rw [List.getElem?_eq_some_iff] at e1
      exact e1.1
    rcases h2.2 with ⟨e, z⟩ | ⟨g, cap', cur, e, _⟩
    · omega
    · cases e
      refine ⟨g, 0, rfl, h2.lt rfl, ?_, ?_⟩
      · rw [Nat.zero_add, World.ownsRow.cellAt h2 _ (by omega)]; exact i1
      · rw [Nat.zero_add, World.ownsRow.cellAt h2 _ (by omega)]; exact i2
/-- The next life's disk. -/
def Next (w : World) (here may : List (List UInt8)) (safe : Nat) (e : Ending) (w' : World) : Prop :=
  ∃ p' K s x, e = .returned (.tuple #[ptr p', .int .i64 0]) ∧ w.heap.size ≤ p' ∧ Dk w' p' K s ∧ From w no K ∧ Bt s x ∧ s.n = 0 ∧ safe ≤ x.length ∧ ((x.length ≤ here.length ∧ x = here.take x.length) ∨ x = here ++ may) ∧ Turn no w w'
theorem mount_left {B : Nat} {w : World} {v : Value} {fl : List Fi} (h : Im B w v fl) (hn : ∀ f ∈ fl, f.1.length ≤ maxLen) {here may : List (List UInt8)} {safe : Nat} (L : Left fl here may safe) :
    Calls Tryd.prog 13 #[.agg #[v], .int .i64 1048576] w (Next w here may safe) := by
  obtain ⟨a, cap, l, rfl, hl, F⟩ := h.fs hn
  obtain ⟨ok, x, b1, b2, b3, b4⟩ := L l hl
  refine (mount25 w.heap.size w (Nat.le_refl _) a cap l F 1048576).mono ?_
  rintro e w' (⟨no', _⟩ | ⟨_, q, K, rfl, q1, q2, q3, q4⟩)
  · rw [ok] at no'; cases no'
  · exact ⟨q, K, _, x, rfl, q1, q2, q3, b1, b2, b3, b4, q4⟩
theorem new_next (w : World) : Calls Tryd.prog 4 #[.int .i64 1048576] w (Next w [] [] 0) := by
  refine (new9 w 1048576 (by decide) (by decide)).mono ?_
  rintro e w' ⟨q, K, rfl, q1, q2, q3, q4⟩
  exact ⟨q, K, _, [], rfl, q1, q2, q3, Bt.new, rfl, Nat.zero_le _, Or.inr rfl, q4⟩
end Go.Proofs.YtbkbecjgphjpkabDoor
/- Open, of the log that a disk between two lives holds; and again. -/
namespace Go.Proofs.YtbkbecjgphjpkabDoor
open Go.RowKit Go.Maps
set_option linter.unusedVariables false

/-- What Open answers. -/
def Opened (w : World) (p : Nat) (M : Nat → Prop) (t' : St) (x : List (List UInt8)) (e : Ending) (w' : World) : Prop :=
  ∃ q vl C M', e = .returned (.tuple #[ptr q, vl, .int .i64 0]) ∧ w.heap.size ≤ C ∧ C ≤ q ∧ LsK w.heap.size C w' vl x ∧ Dk w' p M' t' ∧ (∀ k, M' k → M k ∨ C ≤ k) ∧ ¬ M' q ∧ Lg w' q p nm0 x.length x.length false ∧ Turn M w w'
section
variable {w : World} {p : Nat} {M : Nat → Prop} {s : St} {x : List (List UInt8)}
theorem open_any {t t' : St} (hk : Dk w p M t) (b : Bt t x) (e : opnS t nm0 = t') (hs : (sizeS t' nm0).2 = (cat x).length) (hL : LaidT w) (h0 : ¬ M 0) :
    Calls Tryd.prog 6 #[ptr p, strV nm0] w (Opened w p M t' x) := by
  obtain ⟨bs, hF, hsc⟩ := b.fil
  obtain ⟨r1, r2, r3⟩ := hF.read b.on
  have hbl : bs.length ≤ 1073741824 := by
    rcases hF with ⟨_, rfl, _⟩ | e'
    · simp
    · obtain ⟨bf, bt, V, k⟩ := id hk
      exact k.len (f := ⟨nm0, bs, bs.length⟩) (by rw [e']; simp)
  have hcl : (cat x).length ≤ bs.length := by
    have := (scan_stands _ bs (Nat.lt_succ_self _)).2.1
    rw [hsc] at this
    exact this
  have hn := b.n1
  have c := open6 hk (by omega) nm0_len hL h0 (nm := nm0) (by rw [r1]; exact hbl) (by rw [e, hs]; omega) r3 (fun hl => (b.cut hl).1)
  rw [b.reads.1, e, hs, cwN_all x _ (Nat.le_refl _)] at c
  exact c
theorem open_first (hk : Dk w p M s) (b : Bt s x) (hn : s.n = 0) (hL : LaidT w) (h0 : ¬ M 0) : Calls Tryd.prog 6 #[ptr p, strV nm0] w (Opened w p M (opnS s nm0) x) :=
  open_any hk b rfl (b.opn hn).2.2.1 hL h0
theorem open_again (hk : Dk w p M (opnS s nm0)) (b : Bt s x) (hn : s.n = 0) (hL : LaidT w) (h0 : ¬ M 0) : Calls Tryd.prog 6 #[ptr p, strV nm0] w (Opened w p M (opnS s nm0) x) :=
  open_any hk (b.opn hn).1 (b.again hn).1 (b.opn hn).2.2.1 hL h0
theorem Bt.begins (b : Bt s x) (hn : s.n = 0) : Ld (opnS s nm0) x [] x.length x.length x.length false := by
  have h := b.ld hn
  rw [(b.opn hn).2.2.1, cwN_all x _ (Nat.le_refl _)] at h
  exact h
end
end Go.Proofs.YtbkbecjgphjpkabDoor
/- Arm, beside the law's lists. -/
namespace Go.Proofs.YtbkbecjgphjpkabDoor
open Go.RowKit Go.Maps
set_option linter.unusedVariables false

theorem Ld.arm {s : St} {here may : List (List UInt8)} {safe c y : Nat} {d : Bool} (h : Ld s here may safe c y d) (t : Tr) : Ld (armS s t).1 here may safe c y d ∧ (armS s t).1.n = s.n ∧ (armS s t).1.m ≤ s.m + 1 := by
  unfold armS
  split
  · exact ⟨h, rfl, by simp⟩
  · split
    · exact ⟨⟨h.small, h.maysm, h.cnt, h.hs, h.hy, h.file, h.on, h.in_, h.lim⟩, rfl, Nat.le_refl _⟩
    · exact ⟨h, rfl, by simp⟩
/-- As Lw, with a bound on what was armed. -/
def Lm (Wb : World) (P : Nat → Prop) (w : World) (q p : Nat) (vh vm : Value) (ts ms : List It) (here may : List (List UInt8)) (safe c y : Nat) (d : Bool) (n m : Nat) : Prop :=
  ∃ M s, Dk w p M s ∧ (∀ k, M k → ¬ P k) ∧ ¬ M q ∧ ¬ P q ∧ Lg w q p nm0 c y d ∧ Hr w vh ts ∧ Hr w vm ms ∧ (∀ k, hfoot vh ts k ∨ hfoot vm ms k → ¬ P k ∧ ¬ M k ∧ k ≠ q) ∧ Ld s here may safe c y d ∧ s.n = n ∧ Turn (fun k => ¬ P k) Wb w ∧ s.m ≤ m
section
variable {Wb w : World} {P : Nat → Prop} {q p : Nat} {vh vm : Value} {ts ms : List It} {here may : List (List UInt8)} {safe c y n m : Nat} {d : Bool}
theorem Lm.lw (h : Lm Wb P w q p vh vm ts ms here may safe c y d n m) : Lw Wb P w q p vh vm ts ms here may safe c y d n := by
  obtain ⟨M, s, h1, h2, h3, h4, h5, h6, h7, h8, h9, h10, h11, h12⟩ := h
  exact ⟨M, s, h1, h2, h3, h4, h5, h6, h7, h8, h9, h10, h11⟩
theorem Lm.rest (h : Lm Wb P w q p vh vm ts ms here may safe c y d n m) {w' : World} (t : Turn no w w') : Lm Wb P w' q p vh vm ts ms here may safe c y d n m := by
  obtain ⟨M, s, h1, h2, h3, h4, h5, h6, h7, h8, h9, h10, h11, h12⟩ := h
  exact ⟨M, s, h1.turn_no t, h2, h3, h4, h5.turn_no t, h6.turn_no t, h7.turn_no t, h8, h9, h10, h11.then_no t, h12⟩
theorem Lm.arm (h : Lm Wb P w q p vh vm ts ms here may safe c y d n m) (hn : n < 4611686018427387904) (hm : m < 4611686018427387904) (t : Tr) :
    Calls Tryd.prog 10 #[ptr p, trV t] w fun e w' => (∃ E : Int, e = .returned (.int .i64 E)) ∧ Lm Wb P w' q p vh vm ts ms here may safe c y d n (m + 1) := by
  obtain ⟨M, s, h1, h2, h3, h4, h5, h6, h7, h8, h9, h10, h11, h12⟩ := h
  obtain ⟨l1, l2, l3⟩ := h9.arm t
  refine (arm11 h1 (by omega) (by omega) t).mono ?_
  rintro e w' ⟨rfl, k, tt⟩
  exact ⟨⟨_, rfl⟩, M, _, k, h2, h3, h4, h5.turn tt h3, h6.turn tt (fun k z z' => (h8 k (Or.inl z)).2.1 z'), h7.turn tt (fun k z z' => (h8 k (Or.inr z)).2.1 z'), h8, l1, by omega, h11.trans tt (fun i _ z => h2 i z), by omega⟩
end
end Go.Proofs.YtbkbecjgphjpkabDoor
/- A life begins: the law's list out of what was opened. -/
namespace Go.Proofs.YtbkbecjgphjpkabDoor
open Go.RowKit Go.Maps
set_option linter.unusedVariables false

theorem LsK.its {B C : Nat} {w : World} {vl : Value} {x : List (List UInt8)} (h : LsK B C w vl x) :
    ∃ ts : List It, ts.map (·.2) = x ∧ Own w 55 vl (ts.map (·.1)) ∧ (∀ g, vl.ownBlock = some g → B ≤ g ∧ g < C) ∧ ∀ t ∈ ts, Own w 5 t.1 (t.2.map bv) ∧ ∀ g, t.1.ownBlock = some g → B ≤ g ∧ g < C := by
  have hl := h.ls
  obtain ⟨w2, ⟨vs, a1, a2, a3, a4, a5⟩, hC, tt⟩ := h
  have e1 : (vs.zip x).map (·.1) = vs := List.map_fst_zip (by omega)
  have e2 : (vs.zip x).map (·.2) = x := List.map_snd_zip (by omega)
  have hlt : ∀ g, vl.ownBlock = some g → B ≤ g ∧ g < C := fun g hg => ⟨a3 g hg, by have := a2.lt hg; omega⟩
  have tk : ∀ g, B ≤ g ∧ g < C → ¬ (g < B ∨ C ≤ g) := fun g z => by omega
  refine ⟨vs.zip x, e2, by rw [e1]; exact a2.turn tt (fun g hg => tk g (hlt g hg)), hlt, fun t ht => ?_⟩
  obtain ⟨j, hj⟩ := List.getElem?_of_mem ht
  rw [List.getElem?_zip_eq_some] at hj
  obtain ⟨o, f⟩ := a5 j _ _ hj.2 hj.1
  have f2 : ∀ g, t.1.ownBlock = some g → B ≤ g ∧ g < C := fun g hg => ⟨f g hg, by have := o.lt hg; omega⟩
  exact ⟨o.turn tt (fun g hg => tk g (f2 g hg)), f2⟩
theorem Lm.begin {Wb w : World} {P : Nat → Prop} {p q B C : Nat} {M : Nat → Prop} {t : St} {vl : Value} {x : List (List UInt8)} (hP : ∀ k, P k → k < Wb.heap.size) (hBW : Wb.heap.size ≤ B) (K : LsK B C w vl x) (hk : Dk w p M t) (hM : ∀ k, M k → (k < B ∨ C ≤ k) ∧ ¬ P k) (hMq : ¬ M q) (hCq : C ≤ q) (hBC : B ≤ C)
    (g : Lg w q p nm0 x.length x.length false) (L : Ld t x [] x.length x.length x.length false) (T : Turn (fun k => ¬ P k) Wb w) :
    ∃ ts : List It, ts.map (·.2) = x ∧ Own w 55 vl (ts.map (·.1)) ∧ (∀ g, vl.ownBlock = some g → B ≤ g ∧ g < C) ∧ Bl w vl ts ∧ ∀ v' w', Turn no w w' → Own w' 55 v' (ts.map (·.1)) → (∀ g, v'.ownBlock = some g → w.heap.size ≤ g) →
      Lm Wb P w' q p v' (.slice none 0 0) ts [] (ts.map (·.2)) [] x.length x.length x.length false t.n t.m := by
  obtain ⟨ts, e, o, f, els⟩ := K.its
  refine ⟨ts, e, o, f, Own.bl o (fun t ht => (els t ht).1.bs), fun v' w' tt o' f' => ?_⟩
  have hq := g.lt
  have hs := T.size
  rw [e]
  refine ⟨M, t, hk.turn_no tt, fun k z => (hM k z).2, hMq, fun z => by have := hP q z; omega, g.turn_no tt, ⟨o', fun t ht => (els t ht).1.turn_no tt⟩, Hr.nil _, fun k z => ?_, L, rfl, T.then_no tt, Nat.le_refl _⟩
  rcases z with (z | ⟨u, hu, z⟩) | (z | ⟨u, hu, z⟩)
  · have h1 := f' k z
    exact ⟨fun z' => by have := hP k z'; omega, fun z' => by have := hk.klt k z'; omega, by omega⟩
  · have h1 := (els u hu).2 k z
    exact ⟨fun z' => by have := hP k z'; omega, fun z' => by have := (hM k z').1; omega, by omega⟩
  · cases z
  · cases hu
end Go.Proofs.YtbkbecjgphjpkabDoor
/- What holds at the head of each life. -/
namespace Go.Proofs.YtbkbecjgphjpkabDoor
open Go.RowKit Go.Maps
set_option linter.unusedVariables false

/-- The disk between two lives, and the law's lists of the life before. -/
def Rnd (W0 w : World) (p : Nat) (vh vm : Value) (safe : Nat) : Prop :=
  ∃ K s x ts ms, Dk w p K s ∧ Bt s x ∧ s.n = 0 ∧ (∀ k, K k → W0.heap.size ≤ k) ∧ Hr w vh ts ∧ Hr w vm ms ∧ (∀ k, hfoot vh ts k ∨ hfoot vm ms k → W0.heap.size ≤ k ∧ ¬ K k) ∧ safe ≤ x.length ∧
    ((x.length ≤ ts.length ∧ x = (ts.map (·.2)).take x.length) ∨ x = ts.map (·.2) ++ ms.map (·.2)) ∧ Turn no W0 w ∧ ts.length ≤ 1073741824 ∧ ms.length ≤ 1
theorem Bt.short {w : World} {p : Nat} {M : Nat → Prop} {s : St} {x : List (List UInt8)} (hk : Dk w p M s) (b : Bt s x) : x.length ≤ 1073741824 := by
  obtain ⟨bs, hF, hsc⟩ := b.fil
  have hbl : bs.length ≤ 1073741824 := by
    rcases hF with ⟨_, rfl, _⟩ | e'
    · simp
    · obtain ⟨bf, bt, V, k⟩ := id hk
      exact k.len (f := ⟨nm0, bs, bs.length⟩) (by rw [e']; simp)
  have hcl : (cat x).length ≤ bs.length := by
    have := (scan_stands _ bs (Nat.lt_succ_self _)).2.1
    rw [hsc] at this
    exact this
  have := cat_count x
  omega
section
variable {W0 w w' : World} {p : Nat} {vh vm : Value} {safe : Nat}
theorem Rnd.rest (h : Rnd W0 w p vh vm safe) (t : Turn no w w') : Rnd W0 w' p vh vm safe := by
  obtain ⟨K, s, x, ts, ms, h1, h2, h3, h4, h5, h6, h7, h8, h9, h10, h11⟩ := h
  exact ⟨K, s, x, ts, ms, h1.turn_no t, h2, h3, h4, h5.turn_no t, h6.turn_no t, h7, h8, h9, h10.then_no t, h11⟩
/-- The next one. -/
theorem Rnd.next {ts ms : List It} {w1 : World} {e : Ending} (T : Turn no W0 w1) (hb1 : ts.length ≤ 1073741824) (hb2 : ms.length ≤ 1) (hh : Hr w1 vh ts) (hm : Hr w1 vm ms) (hf : ∀ k, hfoot vh ts k ∨ hfoot vm ms k → W0.heap.size ≤ k) (t : Turn no w1 w) (n : Next w (ts.map (·.2)) (ms.map (·.2)) safe e w') :
    ∃ p', e = .returned (.tuple #[ptr p', .int .i64 0]) ∧ Rnd W0 w' p' vh vm safe := by
  obtain ⟨p', K, s, x, rfl, n1, n2, n3, n4, n5, n6, n7, n8⟩ := n
  have s1 := T.size
  have s2 := t.size
  have hK : ∀ k, K k → w.heap.size ≤ k := fun k z => by
    rcases n3 k z with z | z
    · exact z.elim
    · exact z
  refine ⟨p', rfl, K, s, x, ts, ms, n2, n4, n5, fun k z => by have := hK k z; omega, hh.turn_no (t.then_no n8), hm.turn_no (t.then_no n8), fun k z => ⟨hf k z, fun z' => ?_⟩, n6, ?_, (T.then_no t).then_no n8, hb1, hb2⟩
  · have := hK k z'
    rcases z with z | z
    · have := hh.lt k z; omega
    · have := hm.lt k z; omega
  · rw [List.length_map] at n7
    exact n7
theorem Rnd.start {e : Ending} (n : Next W0 [] [] 0 e w') : ∃ p', e = .returned (.tuple #[ptr p', .int .i64 0]) ∧ Rnd W0 w' p' (.slice none 0 0) (.slice none 0 0) 0 :=
  Rnd.next (ts := []) (ms := []) (Turn.refl no W0) (by simp) (by simp) (Hr.nil _) (Hr.nil _) (fun k z => by
    rcases z with (z | ⟨u, hu, _⟩) | (z | ⟨u, hu, _⟩)
    · cases z
    · cases hu
    · cases z
    · cases hu) (Turn.refl no W0) n
end
end Go.Proofs.YtbkbecjgphjpkabDoor
/- A list of lives, wherever it lies. -/
namespace Go.Proofs.YtbkbecjgphjpkabDoor
open Go.RowKit Go.Maps
set_option linter.unusedVariables false

/-- A list of troubles, three cells each. -/
def Trs (w : World) (v : Value) (l : List Tr) : Prop := ∃ a cap, v = .slice a l.length cap ∧ l.length ≤ 9223372036854775807 ∧
  ∀ j t, l[j]? = some t → ∃ g o, a = some ⟨g, o, none⟩ ∧ w.cell? ⟨g, o + j * 3, none⟩ = some (.int .i64 t.when) ∧ w.cell? ⟨g, o + j * 3 + 1, none⟩ = some (.int .i64 t.kind) ∧ w.cell? ⟨g, o + j * 3 + 2, none⟩ = some (.bool t.done)
theorem Trs.turn_no {w w' : World} {v : Value} {l : List Tr} (h : Trs w v l) (t : Turn no w w') : Trs w' v l := by
  obtain ⟨a, cap, e, hl, hc⟩ := h
  refine ⟨a, cap, e, hl, fun j x hx => ?_⟩
  obtain ⟨g, o, e1, c1, c2, c3⟩ := hc j x hx
  exact ⟨g, o, e1, t.keep c1 (fun z => z), t.keep c2 (fun z => z), t.keep c3 (fun z => z)⟩
/-- A life: records, the numbers behind which Sync is called, troubles, what a crash keeps and how it spoils. -/
structure Lif where
  vr : Value
  vy : Value
  va : Value
  rs : List It
  ys : List Int
  arms : List Tr
  keep : Int
  junk : UInt8
/-- A list of lives, five cells each. -/
def Lvs (w : World) (v : Value) (l : List Lif) : Prop := ∃ a cap, v = .slice a l.length cap ∧ l.length ≤ 9223372036854775807 ∧
  ∀ j f, l[j]? = some f → ∃ g o, a = some ⟨g, o, none⟩ ∧ (w.cell? ⟨g, o + j * 5, none⟩ = some f.vr ∧ w.cell? ⟨g, o + j * 5 + 1, none⟩ = some f.vy ∧ w.cell? ⟨g, o + j * 5 + 2, none⟩ = some f.va ∧ w.cell? ⟨g, o + j * 5 + 3, none⟩ = some (.int .i64 f.keep) ∧ w.cell? ⟨g, o + j * 5 + 4, none⟩ = some (.int .u8 f.junk.toNat)) ∧
    Bl w f.vr f.rs ∧ Vs w f.vy (f.ys.map iv) ∧ Trs w f.va f.arms
theorem Lvs.turn_no {w w' : World} {v : Value} {l : List Lif} (h : Lvs w v l) (t : Turn no w w') : Lvs w' v l := by
  obtain ⟨a, cap, e, hl, hc⟩ := h
  refine ⟨a, cap, e, hl, fun j x hx => ?_⟩
  obtain ⟨g, o, e1, ⟨c1, c2, c3, c4, c5⟩, b1, b2, b3⟩ := hc j x hx
  exact ⟨g, o, e1, ⟨t.keep c1 (fun z => z), t.keep c2 (fun z => z), t.keep c3 (fun z => z), t.keep c4 (fun z => z), t.keep c5 (fun z => z)⟩, b1.turn_no t, b2.turn_no t, b3.turn_no t⟩
/-- A list of byte lists, as what is appended. -/
theorem Bl.src {P : Program} {tx e' : TypeId} (hk : P.underlying tx = some (.slice e')) {w : World} {v : Value} {ts : List It} (h : Bl w v ts) : Src P 1 tx v ts.length (ts.map (·.1)) w := by
  obtain ⟨aa, cp, rfl, _, _, hc⟩ := h
  cases aa with
  | none =>
    cases ts with
    | nil => exact Src.ofNil w hk cp
    | cons t r => obtain ⟨g, o, e, _⟩ := hc 0 t rfl; cases e
  | some a =>
    refine Src.ofSlice (size := 1) w hk a ts.length cp (ts.map (·.1)) (by simp) (fun j u hu => ?_) (fun u hu => ?_)
    · rw [List.getElem?_map, Option.map_eq_some_iff] at hu
      obtain ⟨t, ht, rfl⟩ := hu
      obtain ⟨g, o, e, c, _⟩ := hc j t ht
      cases e
      rw [Addr.add_lit]
      exact c
    · rw [List.mem_map] at hu
      obtain ⟨t, ht, rfl⟩ := hu
      obtain ⟨j, hj⟩ := List.getElem?_of_mem ht
      obtain ⟨g, o, e, c, b⟩ := hc j t hj
      obtain ⟨xa, xc, e2⟩ := b.slice
      rw [e2]
      rfl
end Go.Proofs.YtbkbecjgphjpkabDoor
