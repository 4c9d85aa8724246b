/- H1, H2, H3, H4, H5 in one. -/
import Derived.Test.YtcdogciacchigabL2
import Derived.Test.YtcdogciacchigabI3
import Derived.Test.YtcdogciacchigabBb
import Derived.Test.YtcdogciacchigabRq
import Derived.Test.YtcdogciacchigabY1
import Derived.Test.YtcdogciacchigabI2
import Derived.Deep.CutRange
-- Of the law: an image that is handed in, marks behind its files and their bytes.
namespace Go.Proofs.Ytcdogciacchigab
open Go.RowKit Go.Maps
set_option linter.unusedVariables false

/-- A file's name and bytes. -/
def fis (l : List Fx) : List Fi := l.map (fun f => (f.nm, f.bs))
/-- The bytes of the files, as they are handed in. -/
def hdV (l : List Fx) (gs : List (Nat × Nat)) : List Value := (l.zip gs).map (fun x => .slice (some ⟨x.2.1, 0, none⟩) x.1.bs.length x.2.2)
/-- With the marks behind. -/
def fuV (l : List Fx) (gs : List (Nat × Nat)) : List Value := (l.zip gs).map (fun x => .slice (some ⟨x.2.1, 0, none⟩) (x.1.bs.length + 3) x.2.2)
/-- As Mount sees them. -/
def hdL (l : List Fx) (gs : List (Nat × Nat)) : List Fx := (l.zip gs).map (fun x => ⟨x.1.nm, .slice (some ⟨x.2.1, 0, none⟩) x.1.bs.length x.2.2, x.1.bs⟩)
theorem fis_len (l : List Fx) : (fis l).length = l.length := by simp [fis]
theorem hdV_len (l : List Fx) (gs : List (Nat × Nat)) (h : gs.length = l.length) : (hdV l gs).length = l.length := by simp [hdV, h]
theorem fuV_len (l : List Fx) (gs : List (Nat × Nat)) (h : gs.length = l.length) : (fuV l gs).length = l.length := by simp [fuV, h]
theorem hdL_len (l : List Fx) (gs : List (Nat × Nat)) (h : gs.length = l.length) : (hdL l gs).length = l.length := by simp [hdL, h]
theorem zip_snoc {α β : Type} (l : List α) (r : List β) (h : r.length = l.length) (a : α) (b : β) : (l ++ [a]).zip (r ++ [b]) = l.zip r ++ [(a, b)] := by
  rw [List.zip_append h.symm]; rfl
theorem zip_at {α β : Type} (l : List α) (r : List β) {j : Nat} {a : α} {b : β} (h1 : l[j]? = some a) (h2 : r[j]? = some b) : (l.zip r)[j]? = some (a, b) := by
  simp [List.getElem?_zip_eq_some, h1, h2]
theorem fuV_snoc (l : List Fx) (gs : List (Nat × Nat)) (h : gs.length = l.length) (f : Fx) (x : Nat × Nat) : fuV (l ++ [f]) (gs ++ [x]) = fuV l gs ++ [.slice (some ⟨x.1, 0, none⟩) (f.bs.length + 3) x.2] := by
  simp [fuV, zip_snoc l gs h]
theorem hdV_snoc (l : List Fx) (gs : List (Nat × Nat)) (h : gs.length = l.length) (f : Fx) (x : Nat × Nat) : hdV (l ++ [f]) (gs ++ [x]) = hdV l gs ++ [.slice (some ⟨x.1, 0, none⟩) f.bs.length x.2] := by
  simp [hdV, zip_snoc l gs h]
theorem fis_snoc (l : List Fx) (f : Fx) : fis (l ++ [f]) = fis l ++ [(f.nm, f.bs)] := by simp [fis]
/-- What is handed in, file by file. -/
structure Ea (B : Nat) (w : World) (l : List Fx) (gs : List (Nat × Nat)) : Prop where
  len : gs.length = l.length
  each : ∀ (j : Nat) (f : Fx) (x : Nat × Nat), l[j]? = some f → gs[j]? = some x → Own w 5 (.slice (some ⟨x.1, 0, none⟩) (f.bs.length + 3) x.2) ((f.bs ++ marks).map bv) ∧ B ≤ x.1
  rise : ∀ (i j : Nat) (x y : Nat × Nat), i < j → gs[i]? = some x → gs[j]? = some y → x.1 < y.1
theorem Ea.nil (B : Nat) (w : World) : Ea B w [] [] := ⟨rfl, fun j f x h => by simp at h, fun i j x y _ h => by simp at h⟩
theorem Ea.turn {B : Nat} {S : Nat → Prop} {w w' : World} {l : List Fx} {gs : List (Nat × Nat)} (h : Ea B w l gs) (t : Turn S w w') (hS : ∀ (j : Nat) (x : Nat × Nat), gs[j]? = some x → ¬ S x.1) : Ea B w' l gs :=
  ⟨h.len, fun j f x hf hx => ⟨(h.each j f x hf hx).1.turn t (fun g hg q => by cases hg; exact hS j x hx q), (h.each j f x hf hx).2⟩, h.rise⟩
theorem Ea.turn_no {B : Nat} {w w' : World} {l : List Fx} {gs : List (Nat × Nat)} (h : Ea B w l gs) (t : Turn no w w') : Ea B w' l gs := h.turn t (fun _ _ _ q => q)
theorem Ea.lt {B : Nat} {w : World} {l : List Fx} {gs : List (Nat × Nat)} (h : Ea B w l gs) {j : Nat} {x : Nat × Nat} (hx : gs[j]? = some x) : x.1 < w.heap.size := by
  have hj := (List.getElem?_eq_some_iff.1 hx).1
  obtain ⟨f, hf⟩ : ∃ f, l[j]? = some f := ⟨l[j]'(by have := h.len; omega), List.getElem?_eq_getElem _⟩
  exact (h.each j f x hf hx).1.lt rfl
theorem Ea.tag {B : Nat} {w : World} {l : List Fx} {gs : List (Nat × Nat)} (h : Ea B w l gs) {j : Nat} {x : Nat × Nat} (hx : gs[j]? = some x) : ∃ cur, w.heap[x.1]? = some (.cells cur 5 (0, 0)) := by
  have hj := (List.getElem?_eq_some_iff.1 hx).1
  obtain ⟨f, hf⟩ : ∃ f, l[j]? = some f := ⟨l[j]'(by have := h.len; omega), List.getElem?_eq_getElem _⟩
  exact (h.each j f x hf hx).1.obj rfl
theorem Ea.push {B : Nat} {w w' : World} {l : List Fx} {gs : List (Nat × Nat)} (h : Ea B w l gs) (hB : B ≤ w.heap.size) (t : Turn no w w') (f : Fx) (g c : Nat) (ho : Own w' 5 (.slice (some ⟨g, 0, none⟩) (f.bs.length + 3) c) ((f.bs ++ marks).map bv)) (hg : w.heap.size ≤ g) : Ea B w' (l ++ [f]) (gs ++ [(g, c)]) := by
  have h' := h.turn_no t
  have hlen := h.len
  refine ⟨by simp [hlen], fun j f' x hf hx => ?_, fun i j x y hij hx hy => ?_⟩
  · by_cases hj : j < l.length
    · rw [List.getElem?_append_left hj] at hf
      rw [List.getElem?_append_left (by omega)] at hx
      exact h'.each j f' x hf hx
    · have hj2 : j = l.length := by
        have := (List.getElem?_eq_some_iff.1 hf).1
        simp at this
        omega
      subst hj2
      rw [List.getElem?_append_right (Nat.le_refl _)] at hf
      rw [List.getElem?_append_right (by omega), hlen] at hx
      simp at hf hx
      subst hf hx
      exact ⟨ho, by simp; omega⟩
  · by_cases hj : j < gs.length
    · rw [List.getElem?_append_left hj] at hy
      rw [List.getElem?_append_left (by omega)] at hx
      exact h.rise i j x y hij hx hy
    · have hj2 : j = gs.length := by
        have := (List.getElem?_eq_some_iff.1 hy).1
        simp at this
        omega
      subst hj2
      rw [List.getElem?_append_left hij] at hx
      rw [List.getElem?_append_right (Nat.le_refl _)] at hy
      simp at hy
      subst hy
      have := h.lt hx
      simp; omega
theorem info28 : (Try.prog.info? 28).map (fun i => (i.zero, i.size, i.bytes)) = some (some (.slice none 0 0), 1, 24) := by kernel_rfl
/-- The list of all bytes. -/
def Fu (B : Nat) (w : World) (v : Value) (l : List Fx) (gs : List (Nat × Nat)) : Prop := Own w 28 v (fuV l gs) ∧ ∀ g, v.ownBlock = some g → B ≤ g
theorem Fu.nil (B : Nat) (w : World) : Fu B w (.slice none 0 0) [] [] := ⟨Own.nil w 28, (fun g hg => by cases hg)⟩
theorem Fu.turn {B : Nat} {S : Nat → Prop} {w w' : World} {v : Value} {l : List Fx} {gs : List (Nat × Nat)} (h : Fu B w v l gs) (t : Turn S w w') (hS : ∀ g, v.ownBlock = some g → ¬ S g) : Fu B w' v l gs := ⟨h.1.turn t hS, h.2⟩
theorem Fu.turn_no {B : Nat} {w w' : World} {v : Value} {l : List Fx} {gs : List (Nat × Nat)} (h : Fu B w v l gs) (t : Turn no w w') : Fu B w' v l gs := h.turn t (fun _ _ q => q)
theorem Fu.push {B : Nat} {W : World} {v : Value} {l : List Fx} {gs : List (Nat × Nat)} (h : Fu B W v l gs) (hB : B ≤ W.heap.size) (hlen : gs.length = l.length) (hl : l.length ≤ 3518437208780) (f : Fx) (g c : Nat) :
    ∃ v' w', (∀ ty, (Builtin.append_ #[112, 112] ty #[v, .slice (some ⟨W.heap.size, 0, none⟩) 1 1]).run Try.prog (W.alloc (.cells #[.slice (some ⟨g, 0, none⟩) (f.bs.length + 3) c] 28)) = .ok v' w') ∧ Fu B w' v' (l ++ [f]) (gs ++ [(g, c)]) ∧ Turn (fun k => v.ownBlock = some k) W w' ∧ ∃ a n c, v' = .slice a n c := by
  have ta : Turn no W (W.alloc (.cells #[.slice (some ⟨g, 0, none⟩) (f.bs.length + 3) c] 28)) := (Turn.refl no W).alloc _
  have hs : Src Try.prog 1 112 (.slice (some ⟨W.heap.size, 0, none⟩) 1 1) 1 [.slice (some ⟨g, 0, none⟩) (f.bs.length + 3) c] (W.alloc (.cells #[.slice (some ⟨g, 0, none⟩) (f.bs.length + 3) c] 28)) :=
    Src.ofSlice _ Try.underlying112 _ _ _ _ rfl (fun j x hx => by
      have := (Row.new W #[.slice (some ⟨g, 0, none⟩) (f.bs.length + 3) c] 28).cell j x (by simpa using hx)
      simpa [Addr.add_lit] using this) (fun x hx => by simp at hx; subst hx; rfl)
  obtain ⟨v', w', hr, hO, hG, _⟩ := run_append_src (P := Try.prog) (t := 112) (tx := 112) (e := 28) Try.underlying112 info28 rfl 112 _ v _ (h.1.turn_no ta) _ 1 _ hs (by simp [fuV_len _ _ hlen]; omega) (by simp only [maxLen]; simp [fuV_len _ _ hlen]; omega)
  refine ⟨v', w', fun ty => hr, ⟨by rw [fuV_snoc _ _ hlen]; exact hO, fun g' hg' => ?_⟩, ta.of_no.trans hG.turn (fun k _ q => q), ?_⟩
  · rcases hG.blk with e | ⟨g2, e, e1, _⟩
    · exact h.2 g' (by rw [← e]; exact hg')
    · rw [e] at hg'; cases hg'; have := ta.size; omega
  · rcases hO.shape with ⟨e, _⟩ | ⟨_, _, _, e, _⟩
    · exact ⟨_, _, _, e⟩
    · exact ⟨_, _, _, e⟩
/-- The files. -/
def Fh (B : Nat) (w : World) (v : Value) (l : List Fi) (vs : List Value) : Prop := vs.length = l.length ∧ OwnN w 66 2 v l.length (imC l vs) ∧ ∀ g, v.ownBlock = some g → B ≤ g
theorem Fh.nil (B : Nat) (w : World) : Fh B w (.slice none 0 0) [] [] := ⟨rfl, OwnN.nil w 66 2, (fun g hg => by cases hg)⟩
theorem Fh.turn {B : Nat} {S : Nat → Prop} {w w' : World} {v : Value} {l : List Fi} {vs : List Value} (h : Fh B w v l vs) (t : Turn S w w') (hS : ∀ g, v.ownBlock = some g → ¬ S g) : Fh B w' v l vs := ⟨h.1, h.2.1.turn t hS, h.2.2⟩
theorem Fh.turn_no {B : Nat} {w w' : World} {v : Value} {l : List Fi} {vs : List Value} (h : Fh B w v l vs) (t : Turn no w w') : Fh B w' v l vs := h.turn t (fun _ _ q => q)
theorem Fh.push {B : Nat} {W : World} {v : Value} {l : List Fi} {vs : List Value} (h : Fh B W v l vs) (hB : B ≤ W.heap.size) (hl : l.length ≤ 3518437208780) (nm : Nm) (bs : List UInt8) (u : Value) (hu : u.oneCell' = true) :
    ∃ v' w', (∀ ty, (Builtin.append_ #[22, 22] ty #[v, .slice (some ⟨W.heap.size, 0, none⟩) 1 1]).run Try.prog (W.alloc (.cells #[strV nm, u] 66)) = .ok v' w') ∧ Fh B w' v' (l ++ [(nm, bs)]) (vs ++ [u]) ∧ Turn (fun k => v.ownBlock = some k) W w' ∧ ∃ a n c, v' = .slice a n c := by
  have ta : Turn no W (W.alloc (.cells #[strV nm, u] 66)) := (Turn.refl no W).alloc _
  obtain ⟨h1, h2, h3⟩ := h
  obtain ⟨v', w', hr, hO, hG⟩ := run_append_srcN (P := Try.prog) (t := 22) (tx := 22) Try.underlying22 info41 rfl (by omega) 22 _ v l.length (imC l vs) (h2.turn_no ta) _ 1 [strV nm, u] (src_file W nm u hu) (by omega) (by simp only [maxLen]; omega)
  refine ⟨v', w', fun ty => hr, ⟨by simp [h1], by rw [imC_snoc l vs (nm, bs) u h1]; simpa using hO, fun g' hg' => ?_⟩, ta.of_no.trans hG.turn (fun k _ q => q), ?_⟩
  · rcases hG.blk with e | ⟨g2, e, e1, _⟩
    · exact h3 g' (by rw [← e]; exact hg')
    · rw [e] at hg'; cases hg'; have := ta.size; omega
  · rcases hO.2 with ⟨e, _⟩ | ⟨_, _, _, e, _⟩
    · exact ⟨_, _, _, e⟩
    · exact ⟨_, _, _, e⟩
theorem Fh.at {B : Nat} {w : World} {v : Value} {l : List Fi} {vs : List Value} (h : Fh B w v l vs) (i : Nat) (f : Fi) (u : Value) (hf : l[i]? = some f) (hu : vs[i]? = some u) : ∃ g c, v = .slice (some ⟨g, 0, none⟩) l.length c ∧ w.cell? ⟨g, i * 2, none⟩ = some (strV f.1) ∧ w.cell? ⟨g, i * 2 + 1, none⟩ = some u := by
  obtain ⟨h1, h2, h3⟩ := h
  obtain ⟨e0, e1⟩ := imC_at l vs h1 i f u hf hu
  have hil := (List.getElem?_eq_some_iff.1 hf).1
  rcases h2.2 with ⟨_, q⟩ | ⟨g, cap, cur, rfl, _⟩
  · omega
  · have hc : ∀ j x, (imC l vs)[j]? = some x → w.cell? ⟨g, j, none⟩ = some x := fun j x hx => by
      have := World.ownsRow.cells h2 (g := g) rfl j x hx
      simpa [Addr.add_lit] using this
    exact ⟨g, cap, rfl, hc _ _ e0, hc _ _ e1⟩
theorem Fh.form {B : Nat} {w : World} {v : Value} {l : List Fi} {vs : List Value} (h : Fh B w v l vs) : ∃ a c, v = .slice a l.length c ∧ l.length ≤ c ∧ c ≤ maxLen := by
  obtain ⟨h1, h2, h3⟩ := h
  rcases h2.2 with ⟨e, q⟩ | ⟨g, cap, cur, e, _, _, h1, h2, _⟩
  · exact ⟨none, 0, by rw [e, q], by omega, by simp⟩
  · exact ⟨_, _, e, h1, h2⟩
/-- All together. -/
structure Hd (B : Nat) (w : World) (fv uv : Value) (l : List Fx) (gs : List (Nat × Nat)) : Prop where
  ea : Ea B w l gs
  fu : Fu B w uv l gs
  fh : Fh B w fv (fis l) (hdV l gs)
theorem Hd.nil (B : Nat) (w : World) : Hd B w (.slice none 0 0) (.slice none 0 0) [] [] := ⟨Ea.nil B w, Fu.nil B w, Fh.nil B w⟩
theorem Hd.turn_no {B : Nat} {w w' : World} {fv uv : Value} {l : List Fx} {gs : List (Nat × Nat)} (h : Hd B w fv uv l gs) (t : Turn no w w') : Hd B w' fv uv l gs := ⟨h.ea.turn_no t, h.fu.turn_no t, h.fh.turn_no t⟩
/-- One more: full is longer. -/
theorem Hd.push1 {B : Nat} {w W : World} {fv uv : Value} {l : List Fx} {gs : List (Nat × Nat)} (h : Hd B w fv uv l gs) (hB : B ≤ w.heap.size) (hl : l.length ≤ 3518437208780) (t : Turn no w W) (f : Fx) (g c : Nat) (ho : Own W 5 (.slice (some ⟨g, 0, none⟩) (f.bs.length + 3) c) ((f.bs ++ marks).map bv)) (hg : w.heap.size ≤ g) :
    ∃ v' w', (∀ ty, (Builtin.append_ #[112, 112] ty #[uv, .slice (some ⟨W.heap.size, 0, none⟩) 1 1]).run Try.prog (W.alloc (.cells #[.slice (some ⟨g, 0, none⟩) (f.bs.length + 3) c] 28)) = .ok v' w') ∧ (Ea B w' (l ++ [f]) (gs ++ [(g, c)]) ∧ Fu B w' v' (l ++ [f]) (gs ++ [(g, c)]) ∧ Fh B w' fv (fis l) (hdV l gs)) ∧ Turn (fun k => uv.ownBlock = some k) W w' ∧ ∃ a n c, v' = .slice a n c := by
  have hBW := Nat.le_trans hB t.size
  obtain ⟨v', w', hr, hF, hT, hs⟩ := (h.fu.turn_no t).push hBW h.ea.len hl f g c
  have hE := h.ea.push hB t f g c ho hg
  have hF' := h.fh.turn_no t
  refine ⟨v', w', hr, ⟨hE.turn hT (fun j x hx q => ?_), hF, hF'.turn hT (fun g' hg' q => ?_)⟩, hT, hs⟩
  · obtain ⟨c1, e1⟩ := hE.tag hx
    obtain ⟨c2, e2⟩ := (h.fu.turn_no t).1.obj q
    exact absurd (tag_ne e1 e2) (by decide)
  · obtain ⟨c1, e1⟩ := hF'.2.1.obj hg'
    obtain ⟨c2, e2⟩ := (h.fu.turn_no t).1.obj q
    exact absurd (tag_ne e1 e2) (by decide)
/-- And the files, too. -/
theorem Hd.push2 {B : Nat} {W : World} {fv uv : Value} {l : List Fx} {gs : List (Nat × Nat)} {f : Fx} {g c : Nat} (h : Ea B W (l ++ [f]) (gs ++ [(g, c)]) ∧ Fu B W uv (l ++ [f]) (gs ++ [(g, c)]) ∧ Fh B W fv (fis l) (hdV l gs)) (hlen : gs.length = l.length) (hB : B ≤ W.heap.size) (hl : l.length ≤ 3518437208780) :
    ∃ v' w', (∀ ty, (Builtin.append_ #[22, 22] ty #[fv, .slice (some ⟨W.heap.size, 0, none⟩) 1 1]).run Try.prog (W.alloc (.cells #[strV f.nm, .slice (some ⟨g, 0, none⟩) f.bs.length c] 66)) = .ok v' w') ∧ Hd B w' v' uv (l ++ [f]) (gs ++ [(g, c)]) ∧ Turn (fun k => fv.ownBlock = some k) W w' ∧ ∃ a n c, v' = .slice a n c := by
  obtain ⟨hE, hU, hF⟩ := h
  obtain ⟨v', w', hr, hF2, hT, hs⟩ := hF.push hB (by rw [fis_len]; exact hl) f.nm f.bs (.slice (some ⟨g, 0, none⟩) f.bs.length c) rfl
  refine ⟨v', w', hr, ⟨hE.turn hT (fun j x hx q => ?_), hU.turn hT (fun g' hg' q => ?_), by rw [fis_snoc, hdV_snoc _ _ hlen]; exact hF2⟩, hT, hs⟩
  · obtain ⟨c1, e1⟩ := hE.tag hx
    obtain ⟨c2, e2⟩ := hF.2.1.obj q
    exact absurd (tag_ne e1 e2) (by decide)
  · obtain ⟨c1, e1⟩ := hU.1.obj hg'
    obtain ⟨c2, e2⟩ := hF.2.1.obj q
    exact absurd (tag_ne e1 e2) (by decide)
theorem mF_fis (l l' : List Fx) (h : fis l = fis l') : mF l = mF l' := by
  have e : ∀ l : List Fx, mF l = (fis l).foldl (fun acc f => putF ⟨f.1, f.2, f.2.length⟩ acc) [] := fun l => by simp [mF, fis, List.foldl_map]
  rw [e, e, h]
theorem fis_take (l : List Fx) (j : Nat) : fis (l.take j) = (fis l).take j := by simp [fis]
theorem fis_nm (l : List Fx) : l.map Fx.nm = (fis l).map (·.1) := by simp [fis]
theorem fit_fis (L : Nat) (l l' : List Fx) (h : fis l = fis l') (j : Nat) : fitAt L l j = fitAt L l' j := by
  have hj : ∀ l : List Fx, (fis l)[j]? = (l[j]?).map (fun f => (f.nm, f.bs)) := fun l => by simp [fis]
  have h1 := hj l
  rw [h, hj l'] at h1
  have hm : mSt L (l.take j) = mSt L (l'.take j) := by
    unfold mSt
    rw [mF_fis (l.take j) (l'.take j) (by rw [fis_take, fis_take, h])]
  unfold fitAt
  cases e : l[j]? with
  | none => rw [e] at h1; cases e' : l'[j]? with
    | none => rfl
    | some f => rw [e'] at h1; simp at h1
  | some f => rw [e] at h1; cases e' : l'[j]? with
    | none => rw [e'] at h1; simp at h1
    | some f' =>
      rw [e'] at h1
      simp at h1
      simp only [hm, h1.1, h1.2]
theorem mOk_fis (lim : Int) (l l' : List Fx) (h : fis l = fis l') : mOk lim l = mOk lim l' := by
  unfold mOk
  rw [fis_nm, fis_nm, h]
  have e : l.length = l'.length := by rw [← fis_len, ← fis_len l', h]
  rw [e]
  congr 2
  funext j
  exact fit_fis _ _ _ h j
theorem mErr_fis (lim : Int) (l l' : List Fx) (h : fis l = fis l') : mErr lim l = mErr lim l' := by
  unfold mErr
  rw [fis_nm, fis_nm, h]
theorem mSt_fis (lim : Nat) (l l' : List Fx) (h : fis l = fis l') : mSt lim l = mSt lim l' := by
  unfold mSt
  rw [mF_fis _ _ h]
theorem fis_hdL (l : List Fx) (gs : List (Nat × Nat)) (h : gs.length = l.length) : fis (hdL l gs) = fis l := by
  unfold fis hdL
  induction l generalizing gs with
  | nil => simp
  | cons f r ih =>
    cases gs with
    | nil => simp at h
    | cons x xs =>
      have := ih xs (by simpa using h)
      simp only [List.zip_cons_cons, List.map_cons] at this ⊢
      rw [this]
theorem hdL_at {l : List Fx} {gs : List (Nat × Nat)} {j : Nat} {f : Fx} (h : (hdL l gs)[j]? = some f) : ∃ f' x, l[j]? = some f' ∧ gs[j]? = some x ∧ f = ⟨f'.nm, .slice (some ⟨x.1, 0, none⟩) f'.bs.length x.2, f'.bs⟩ := by
  unfold hdL at h
  rw [List.getElem?_map] at h
  cases e : (l.zip gs)[j]? with
  | none => rw [e] at h; cases h
  | some y =>
    rw [e] at h
    obtain ⟨h1, h2⟩ := List.getElem?_zip_eq_some.1 e
    exact ⟨y.1, y.2, h1, h2, by simpa using h.symm⟩
/-- What Mount is handed. -/
theorem Hd.fs {B : Nat} {w : World} {fv uv : Value} {l : List Fx} {gs : List (Nat × Nat)} (h : Ea B w l gs) (a : Option Addr) (n c : Nat) (mk : List Fi) (mv : List Value) (hF : Fh B w (.slice a n c) (fis l ++ mk) (hdV l gs ++ mv)) (hn : ∀ f ∈ l, f.nm.length ≤ maxLen) : Fs w.heap.size w a c (hdL l gs) := by
  have hlen := h.len
  obtain ⟨a', c', e, hle, hcap⟩ := hF.form
  have ec : c = c' := by simp at e; exact e.2.2
  refine ⟨?_, by rw [ec]; exact hcap, fun f hf => ?_, fun j f hf => ?_⟩
  · rw [hdL_len _ _ hlen, ec]; simp [fis_len] at hle; omega
  · obtain ⟨j, hj⟩ := List.mem_iff_getElem?.1 hf
    obtain ⟨f', x, h1, h2, rfl⟩ := hdL_at hj
    obtain ⟨ho, _⟩ := h.each j f' x h1 h2
    refine ⟨hn f' (List.mem_of_getElem? h1), ?_, fun _ g hg => ?_⟩
    · obtain ⟨a', c', e, _, hBt⟩ := take_bs ho f'.bs.length (by simp)
      simp at e
      obtain ⟨e1, _, e3⟩ := e
      rw [← e1, ← e3] at hBt
      simpa using hBt
    · cases hg; exact h.lt h2
  · obtain ⟨f', x, h1, h2, rfl⟩ := hdL_at hf
    have e1 : (fis l ++ mk)[j]? = some (f'.nm, f'.bs) := by
      rw [List.getElem?_append_left (by rw [fis_len]; exact (List.getElem?_eq_some_iff.1 h1).1)]
      simp [fis, h1]
    have e2 : (hdV l gs ++ mv)[j]? = some (.slice (some ⟨x.1, 0, none⟩) f'.bs.length x.2) := by
      rw [List.getElem?_append_left (by rw [hdV_len _ _ hlen]; exact (List.getElem?_eq_some_iff.1 h1).1)]
      unfold hdV
      rw [List.getElem?_map, zip_at l gs h1 h2]
      rfl
    obtain ⟨g, c2, e3, c0, c1⟩ := hF.at j _ _ e1 e2
    have ea : a = some ⟨g, 0, none⟩ := by simp at e3; exact e3.1
    exact ⟨g, 0, ea, hF.2.1.lt (by rw [ea]; rfl), by simpa using c0, by simpa using c1⟩
end Go.Proofs.Ytcdogciacchigab

-- Of the law: handed.
namespace Go.Proofs.Ytcdogciacchigab
open Go.RowKit Go.Maps
set_option linter.unusedVariables false

def markN : Nm := [109, 97, 114, 107]
set_option maxRecDepth 100000 in
set_option maxHeartbeats 8000000 in
theorem handed71 {B : Nat} (w : World) (a : Option Addr) (cap : Nat) (l : List Fx) (h : Fs B w a cap l) (hBw : B ≤ w.heap.size) (hl : l.length ≤ 3518437208780) (hb : ∀ f ∈ l, f.bs.length ≤ 140737488351232) :
    Calls Try.prog 71 #[.agg #[.slice a l.length cap]] w fun e w' => ∃ fa fc ua un uc gs, e = .returned (.tuple #[.slice fa (l.length + 1) fc, .slice ua un uc]) ∧ (Ea w.heap.size w' l gs ∧ Fu w.heap.size w' (.slice ua un uc) l gs ∧ Fh w.heap.size w' (.slice fa (l.length + 1) fc) (fis l ++ [(markN, [])]) (hdV l gs ++ [.slice none 0 0])) ∧ Turn no w w' := by
  obtain ⟨w1, hw1⟩ : ∃ w1, w1 = w.alloc (.cells #[.slice a l.length cap] 24) := ⟨_, rfl⟩
  have T1 : Turn no w w1 := by rw [hw1]; exact (Turn.refl no w).alloc _
  have hs1 : w1.heap.size = w.heap.size + 1 := by rw [hw1]; simp
  have R1 : Row w1 w.heap.size #[.slice a l.length cap] 24 := by rw [hw1]; exact Row.new w _ 24
  have hF1 := h.turn_no T1
  have hbox : ∀ W, Turn no w1 W → W.cell? ⟨w.heap.size, 0, none⟩ = some (.slice a l.length cap) := fun W t => (R1.turn t (fun q => q)).cell 0 _ rfl
  have HBX := shut hbox
  have HF := shut hF1
  have HT1 := shut T1
  have HS1 := shut hs1
  have hl' : l.length ≤ 9223372036854775807 := by omega
  have HBW := shut hBw
  clear hbox hF1 T1 hs1 R1 h hBw
  go_enter Try.func71, Try.ntmps71
  go_wp2_with fail
  try rw [← hw1]
  go_loopw [4, 5, 6] (fun x y z wr => ∃ (i : Nat) (xa : Option Addr) (xn xc : Nat) (ya : Option Addr) (yn yc : Nat) (gs : List (Nat × Nat)), i ≤ l.length ∧ x = .slice xa xn xc ∧ y = .slice ya yn yc ∧ z = .int .i64 i ∧ Shut (Hd (w.heap.size + 1) wr (.slice xa xn xc) (.slice ya yn yc) (l.take i) gs) ∧ Shut (Turn no w1 wr)) (fun _ _ z _ => l.length - (intOf z).toNat)
  case atStart => exact ⟨0, none, 0, 0, none, 0, 0, [], Nat.zero_le _, rfl, rfl, rfl, by rw [List.take_zero]; exact Hd.nil _ _, Turn.refl _ _⟩
  case round =>
    obtain ⟨i, xa, xn, xc, ya, yn, yc, gs, hi, rfl, rfl, rfl, HH, HT⟩ := hrel
    have bx := HBX.out wr HT.out
    have hszr : w.heap.size + 1 ≤ wr.heap.size := by have := HT.out.size; have := HS1.out; omega
    by_cases hlt : i < l.length
    · have hlt' : (i : Int) < (l.length : Int) := by omega
      obtain ⟨f, hf⟩ : ∃ f, l[i]? = some f := ⟨l[i], List.getElem?_eq_getElem hlt⟩
      have hfm := List.mem_of_getElem? hf
      obtain ⟨b, off, ea, hbB, d0, d1⟩ := (HF.out.turn_no HT.out).cells i f hf
      subst ea
      obtain ⟨_, hfb, hfB⟩ := (HF.out.turn_no HT.out).each f hfm
      have hroom := room20 wr f.vb f.bs hfb (hb f hfm)
      obtain ⟨va, vc, hvb⟩ := hfb.slice
      rw [hvb] at d1 hroom
      have htk : l.take (i + 1) = l.take i ++ [f] := by rw [List.take_add_one, hf]; rfl
      have htl : (l.take i).length ≤ 3518437208780 := by rw [List.length_take]; omega
      have hnb : f.bs.length ≤ 140737488351232 := hb f hfm
      have HTK := shut htk
      have HTL := shut htl
      have HBB := shut hbB
      have HSZ := shut hszr
      have hbx : ∀ W, Turn no wr W → W.cell? ⟨w.heap.size, 0, none⟩ = some (.slice (some ⟨b, off, none⟩) l.length cap) ∧ W.cell? ⟨b, off + i * 2, none⟩ = some (strV f.nm) ∧ W.cell? ⟨b, off + i * 2 + 1, none⟩ = some (.slice va f.bs.length vc) := fun W t => ⟨t.keep bx (fun q => q), t.keep d0 (fun q => q), t.keep d1 (fun q => q)⟩
      have HB3 := shut hbx
      clear hbx htk htl hbB hszr hfb hfB hf hfm hvb
      unfold strV at *
      go_wp2_with fail
      refine hroom.mono ?_
      clear hroom
      rintro e w2 ⟨g, c, rfl, hO2, hg2, T2⟩
      have hcap : f.bs.length ≤ c := by
        rcases hO2.shape with ⟨e, _⟩ | ⟨_, cap, _, e, _, h1, _⟩
        · cases e
        · simp at e h1
          have := e.2.2
          omega
      have hcap' : (f.bs.length : Int) ≤ (c : Int) := by omega
      have hcap2 : ¬ (c : Int) < (f.bs.length : Int) := by omega
      obtain ⟨v3, w3, hr3, hP3, T3, za, zn, zc, rfl⟩ := HH.out.push1 HSZ.out HTL.out T2 f g c hO2 hg2
      have hs2 := T2.size
      have hs3 := T3.size
      have hsz := HSZ.out
      have hS1 := HS1.out
      have hbB := HBB.out
      have hBw := HBW.out
      have TT3 : Turn no w1 w3 := (HT.out.then_no T2).trans T3 (fun k hk q => by have := HH.out.fu.2 k q; omega)
      have td : Turn no w3 w3.drew := (Turn.refl no w3).drew
      obtain ⟨v4, w4, hr4, hP4, T4, ua, un, uc, rfl⟩ := Hd.push2 (W := w3.drew) ⟨hP3.1.turn_no td, hP3.2.1.turn_no td, hP3.2.2.turn_no td⟩ HH.out.ea.len (show w.heap.size + 1 ≤ w3.heap.size by omega) HTL.out
      have T4' : Turn (fun k => (Value.slice xa xn xc).ownBlock = some k) w3 w4 := td.of_no.trans T4 (fun k _ q => q)
      have TT4 : Turn no w1 w4 := TT3.trans T4' (fun k hk q => by have := HH.out.fh.2.2 k q; omega)
      have hcell3 : ∀ W, Turn (fun k => (Value.slice xa xn xc).ownBlock = some k) w3 W → W.cell? ⟨w.heap.size, 0, none⟩ = some (.slice (some ⟨b, off, none⟩) l.length cap) ∧ W.cell? ⟨b, off + i * 2, none⟩ = some (.string ⟨f.nm.toArray⟩) ∧ W.cell? ⟨b, off + i * 2 + 1, none⟩ = some (.slice va f.bs.length vc) := fun W t => by
        have tt : Turn (fun k => w.heap.size + 1 ≤ k) wr W := ((T2.of_no (S := fun k => w.heap.size + 1 ≤ k)).trans T3 (fun k hk q => HH.out.fu.2 k q)).trans t (fun k hk q => HH.out.fh.2.2 k q)
        obtain ⟨y0, y1, y2⟩ := HB3.out wr (Turn.refl _ _)
        exact ⟨tt.keep y0 (fun q => by simp only at q; omega), tt.keep y1 (fun q => by simp only at q; omega), tt.keep y2 (fun q => by simp only at q; omega)⟩
      have HC3 := shut hcell3
      have HP4 : Shut (Hd (w.heap.size + 1) w4 (.slice ua un uc) (.slice za zn zc) (l.take (i + 1)) (gs ++ [(g, c)])) := by rw [HTK.out]; exact hP4
      have hap4 : ∀ ty, (Builtin.append_ #[22, 22] ty #[.slice xa xn xc, .slice (some ⟨w3.heap.size, 0, none⟩) 1 1]).run Try.prog (w3.alloc (.cells #[.string ⟨f.nm.toArray⟩, .slice (some ⟨g, 0, none⟩) f.bs.length c] 66)).drew = .ok (.slice ua un uc) w4 := fun ty => hr4 ty
      have HAP4 := shut hap4
      have HT4 := shut TT4
      have HT4' := shut T4'
      have z0 := (HB3.out w2 T2).1
      clear hcell3 hP4 hP3 hap4 hr4 TT4 TT3 T4 T4' td hO2 T2 hs2 hs3 hsz hS1 hbB hBw bx d0 d1 hcap hg2 T3
      go_wp2_with (at_builtin; refine wpList_append_run rfl _ _ (t := 112) (tx := 112) rfl _ _ rfl rfl (hr3 _) ?_)
      clear hr3 z0
      refine wp_region_held_drew (S := fun W => Turn (fun k => (Value.slice xa xn xc).ownBlock = some k) w3 W) (by kernel_rfl) (Turn.refl _ w3).drew (fun hHeld => ?_)
      refine' wpAnyH_take (i := 0) (v := .slice xa xn xc) rfl (by kernel_rfl) (by kernel_rfl) (by kernel_rfl) (fun _ _ _ h => h) (Or.inl ⟨by kernel_rfl, fun W hW => ?y1⟩) hHeld ?r1
      · go_simp
      refine' wpAnyH_take (i := 1) (v := .pointer (some ⟨w.heap.size, 0, none⟩)) rfl (by kernel_rfl) (by kernel_rfl) (by kernel_rfl) (fun _ _ _ h => h) (Or.inl ⟨by kernel_rfl, fun W hW => ?y2⟩) hHeld ?r2
      · go_simp
      refine' wpAnyH_take (i := 2) (v := .slice (some ⟨b, off, none⟩) l.length cap) rfl (by kernel_rfl) (by kernel_rfl) (by kernel_rfl) (fun _ _ _ h => h) (Or.inl ⟨by kernel_rfl, fun W hW => ?y3⟩) hHeld ?r3
      · have z := (HC3.out W hW).1
        go_simp
      refine' wpAnyH_take (i := 3) (v := .int .i64 i) rfl (by kernel_rfl) (by kernel_rfl) (by kernel_rfl) (fun _ _ _ h => h) (Or.inl ⟨by kernel_rfl, fun W hW => ?y4⟩) hHeld ?r4
      · go_simp
      refine' wpAnyH_take (i := 4) (v := .pointer (some ⟨b, off + i * 2, none⟩)) rfl (by kernel_rfl) (by kernel_rfl) (by kernel_rfl) (fun _ _ _ h => h) (Or.inl ⟨by kernel_rfl, fun W hW => ?y5⟩) hHeld ?r5
      · go_simp
      refine' wpAnyH_take (i := 5) (v := .pointer (some ⟨b, off + i * 2, none⟩)) rfl (by kernel_rfl) (by kernel_rfl) (by kernel_rfl) (fun _ _ _ h => h) (Or.inl ⟨by kernel_rfl, fun W hW => ?y6⟩) hHeld ?r6
      · go_simp
      refine' wpAnyH_take (i := 6) (v := .string ⟨f.nm.toArray⟩) rfl (by kernel_rfl) (by kernel_rfl) (by kernel_rfl) (fun _ _ _ h => h) (Or.inl ⟨by kernel_rfl, fun W hW => ?y7⟩) hHeld ?r7
      · have z := (HC3.out W hW).2.1
        go_simp
      refine' wpAnyH_take (i := 7) (v := .slice (some ⟨g, 0, none⟩) (f.bs.length + 3) c) rfl (by kernel_rfl) (by kernel_rfl) (by kernel_rfl) (fun _ _ _ h => h) (Or.inl ⟨by kernel_rfl, fun W hW => ?y8⟩) hHeld ?r8
      · go_simp
      refine' wpAnyH_take (i := 8) (v := .pointer (some ⟨w.heap.size, 0, none⟩)) rfl (by kernel_rfl) (by kernel_rfl) (by kernel_rfl) (fun _ _ _ h => h) (Or.inl ⟨by kernel_rfl, fun W hW => ?y9⟩) hHeld ?r9
      · go_simp
      refine' wpAnyH_take (i := 9) (v := .slice (some ⟨b, off, none⟩) l.length cap) rfl (by kernel_rfl) (by kernel_rfl) (by kernel_rfl) (fun _ _ _ h => h) (Or.inl ⟨by kernel_rfl, fun W hW => ?y10⟩) hHeld ?r10
      · have z := (HC3.out W hW).1
        go_simp
      refine' wpAnyH_take (i := 10) (v := .int .i64 i) rfl (by kernel_rfl) (by kernel_rfl) (by kernel_rfl) (fun _ _ _ h => h) (Or.inl ⟨by kernel_rfl, fun W hW => ?y11⟩) hHeld ?r11
      · go_simp
      refine' wpAnyH_take (i := 11) (v := .pointer (some ⟨b, off + i * 2, none⟩)) rfl (by kernel_rfl) (by kernel_rfl) (by kernel_rfl) (fun _ _ _ h => h) (Or.inl ⟨by kernel_rfl, fun W hW => ?y12⟩) hHeld ?r12
      · go_simp
      refine' wpAnyH_take (i := 12) (v := .pointer (some ⟨b, off + i * 2 + 1, none⟩)) rfl (by kernel_rfl) (by kernel_rfl) (by kernel_rfl) (fun _ _ _ h => h) (Or.inl ⟨by kernel_rfl, fun W hW => ?y13⟩) hHeld ?r13
      · go_simp
      refine' wpAnyH_take (i := 13) (v := .slice va f.bs.length vc) rfl (by kernel_rfl) (by kernel_rfl) (by kernel_rfl) (fun _ _ _ h => h) (Or.inl ⟨by kernel_rfl, fun W hW => ?y14⟩) hHeld ?r14
      · have z := (HC3.out W hW).2.2
        go_simp
      refine' wpAnyH_take (i := 14) (v := .int .i64 f.bs.length) rfl (by kernel_rfl) (by kernel_rfl) (by kernel_rfl) (fun _ _ _ h => h) (Or.inl ⟨by kernel_rfl, fun W hW => ?y15⟩) hHeld ?r15
      · go_simp
      refine' wpAnyH_take (i := 15) (v := .slice (some ⟨g, 0, none⟩) f.bs.length c) rfl (by kernel_rfl) (by kernel_rfl) (by kernel_rfl) (fun _ _ _ h => h) (Or.inl ⟨by kernel_rfl, fun W hW => ?y16⟩) hHeld ?r16
      · go_simp
      refine' wpAnyH_take (i := 16) (v := .agg #[.string ⟨f.nm.toArray⟩, .slice (some ⟨g, 0, none⟩) f.bs.length c]) rfl (by kernel_rfl) (by kernel_rfl) (by kernel_rfl) (fun _ _ _ h => h) (Or.inl ⟨by kernel_rfl, fun W hW => ?y17⟩) hHeld ?r17
      · go_simp
      refine wpAnyH_ready (rs := [17]) (by kernel_rfl) (by simp) ?_
      refine AllReadyH.cons rfl (fun K hK => ?_) AllReadyH.nil
      go_simp
      refine hK.out _ _ ((Turn.refl _ w3).alloc _).drew (fun hHeld => ?_)
      clear hK
      refine wpAnyH_ready (rs := [18]) (by kernel_rfl) (by simp) ?_
      refine AllReadyH.cons rfl (fun K hK => ?_) AllReadyH.nil
      rw [if_pos (by rfl)]
      refine wp_append_run _ _ rfl _ _ rfl rfl (HAP4.out _) ?_
      refine hK.out _ _ HT4'.out (fun hHeld => ?_)
      clear hK
      refine' wpAnyH_take (i := 19) (v := .slice ua un uc) rfl (by kernel_rfl) (by kernel_rfl) (by kernel_rfl) (fun _ _ _ h => h) (Or.inl ⟨by kernel_rfl, fun W hW => ?y18⟩) hHeld ?r18
      · go_simp
      refine wpAnyH_done (by kernel_rfl) ?_ _
      go_wp2_with fail
      go_roundw
      case rel => exact ⟨i + 1, _, _, _, _, _, _, gs ++ [(g, c)], by omega, rfl, rfl, by go_num, HP4, HT4⟩
      case measure => simp [intOf]; omega
    · obtain rfl : i = l.length := by omega
      have hnlt : ¬ (l.length : Int) < (l.length : Int) := by omega
      obtain ⟨v4, w4, hr4, hP4, T4, ua, un, uc, rfl⟩ := HH.out.fh.push hszr (by rw [fis_len, List.length_take]; omega) markN [] (.slice none 0 0) rfl
      rw [List.take_length] at hP4
      have hE := HH.out.ea
      have hU := HH.out.fu
      rw [List.take_length] at hE hU
      have hun : un = l.length + 1 := by
        obtain ⟨_, _, e, _⟩ := hP4.form
        simp [fis_len] at e
        exact e.2.1
      subst hun
      have FIN : Shut ((Ea w.heap.size w4 l gs ∧ Fu w.heap.size w4 (.slice ya yn yc) l gs ∧ Fh w.heap.size w4 (.slice ua (l.length + 1) uc) (fis l ++ [(markN, [])]) (hdV l gs ++ [.slice none 0 0])) ∧ Turn no w w4) := by
        have hE4 := hE.turn T4 (fun j x hx q => by
          obtain ⟨c1, e1⟩ := hE.tag hx
          obtain ⟨c2, e2⟩ := HH.out.fh.2.1.obj q
          exact absurd (tag_ne e1 e2) (by decide))
        have hU4 := hU.turn T4 (fun g hg q => by
          obtain ⟨c1, e1⟩ := hU.1.obj hg
          obtain ⟨c2, e2⟩ := HH.out.fh.2.1.obj q
          exact absurd (tag_ne e1 e2) (by decide))
        refine ⟨⟨⟨hE4.len, fun j f x hf hx => ⟨(hE4.each j f x hf hx).1, by have := (hE4.each j f x hf hx).2; omega⟩, hE4.rise⟩, ⟨hU4.1, fun g hg => by have := hU4.2 g hg; omega⟩, ⟨hP4.1, hP4.2.1, fun g hg => by have := hP4.2.2 g hg; omega⟩⟩, ?_⟩
        have := HS1.out
        exact (HT1.out.then_no HT.out).trans T4 (fun k hk q => by have := HH.out.fh.2.2 k q; omega)
      have hap : ∀ ty, (Builtin.append_ #[22, 22] ty #[.slice xa xn xc, .slice (some ⟨wr.heap.size, 0, none⟩) 1 1]).run Try.prog (wr.alloc (.cells #[.string ⟨#[109, 97, 114, 107]⟩, .slice none 0 0] 66)) = .ok (.slice ua (l.length + 1) uc) w4 := fun ty => hr4 ty
      clear hr4 hP4 hE hU T4
      generalize hN : l.length + 1 = N at *
      have HN := shut hN
      clear hN
      go_wp2_with (at_builtin; refine wpList_append_run rfl _ _ (t := 22) (tx := 22) rfl _ _ rfl rfl (hap _) ?_)
      go_ret2
      have E := HN.out
      subst E
      exact ⟨ua, uc, ya, yn, yc, rfl, ⟨gs, FIN.out.1⟩, FIN.out.2⟩
end Go.Proofs.Ytcdogciacchigab

-- Of the law: untouched.
namespace Go.Proofs.Ytcdogciacchigab
open Go.RowKit Go.Maps
set_option linter.unusedVariables false

theorem Fu.at {B : Nat} {w : World} {v : Value} {l : List Fx} {gs : List (Nat × Nat)} (h : Fu B w v l gs) {i : Nat} {f : Fx} {x : Nat × Nat} (hf : l[i]? = some f) (hx : gs[i]? = some x) : ∃ g c, v = .slice (some ⟨g, 0, none⟩) (fuV l gs).length c ∧ w.cell? ⟨g, i, none⟩ = some (.slice (some ⟨x.1, 0, none⟩) (f.bs.length + 3) x.2) := by
  have e : (fuV l gs)[i]? = some (.slice (some ⟨x.1, 0, none⟩) (f.bs.length + 3) x.2) := by
    unfold fuV
    rw [List.getElem?_map, zip_at l gs hf hx]
    rfl
  rcases h.1.shape with ⟨_, q⟩ | ⟨g, cap, cur, e2, _⟩
  · rw [q] at e; simp at e
  · subst e2
    exact ⟨g, cap, rfl, h.1.cell i _ e⟩
set_option maxRecDepth 100000 in
set_option maxHeartbeats 8000000 in
theorem untouched73 {B B' : Nat} (w : World) (a : Option Addr) (cap : Nat) (l : List Fx) (h : Fs B w a cap l) (hl : l.length ≤ 3518437208780) (hb : ∀ f ∈ l, f.bs.length ≤ 140737488351232) (fa : Option Addr) (fc : Nat) (ua : Option Addr) (un uc : Nat) (gs : List (Nat × Nat))
    (hE : Ea B' w l gs) (hU : Fu B' w (.slice ua un uc) l gs) (hF : Fh B' w (.slice fa (l.length + 1) fc) (fis l ++ [(markN, [])]) (hdV l gs ++ [.slice none 0 0])) :
    Calls Try.prog 73 #[.slice fa (l.length + 1) fc, .slice ua un uc, .agg #[.slice a l.length cap]] w fun e w' => e = .returned (.bool true) ∧ Turn no w w' := by
  obtain ⟨w1, hw1⟩ : ∃ w1, w.alloc (.cells #[.slice a l.length cap] 24) = w1 := ⟨_, rfl⟩
  have T1 : Turn no w w1 := by rw [← hw1]; exact (Turn.refl no w).alloc _
  have R1 : Row w1 w.heap.size #[.slice a l.length cap] 24 := by rw [← hw1]; exact Row.new w _ 24
  have hF1 := h.turn_no T1
  have hbox : ∀ W, Turn no w1 W → W.cell? ⟨w.heap.size, 0, none⟩ = some (.slice a l.length cap) := fun W t => (R1.turn t (fun q => q)).cell 0 _ rfl
  have HBX := shut hbox
  have HF := shut hF1
  have HT1 := shut T1
  have HE := shut (hE.turn_no T1)
  have HU := shut (hU.turn_no T1)
  have HH := shut (hF.turn_no T1)
  have hl' : l.length ≤ 9223372036854775807 := by omega
  have hlast := (hF.turn_no T1).at l.length (markN, []) (.slice none 0 0) (by rw [List.getElem?_append_right (by rw [fis_len]; exact Nat.le_refl _), fis_len]; simp) (by rw [List.getElem?_append_right (by rw [hdV_len _ _ hE.len]; exact Nat.le_refl _), hdV_len _ _ hE.len]; simp)
  obtain ⟨fg, fc', ef, m0, m1⟩ := hlast
  have efa : fa = some ⟨fg, 0, none⟩ := by simp at ef; exact ef.1
  subst efa
  have c1 := hbox w1 (Turn.refl _ _)
  have hw1' : IntKind.i64.wrap ((l.length : Int) + 1) = (l.length : Int) + 1 := wrap_i64 (by omega) (by omega)
  have hx0 : (l.length : Int) < ((l.length + 1 : Nat) : Int) := by omega
  have hHU := HU.out
  clear hbox hF1 T1 R1 h hE hU hF ef hHU
  unfold strV markN at m0
  go_enter Try.func73, Try.ntmps73
  go_wp2_with fail
  try rw [hw1]
  go_wp2_with fail
  go_loopw [8] (fun x wr => ∃ i : Nat, i ≤ l.length ∧ x = .int .i64 i ∧ Shut (Turn no w1 wr)) (fun x _ => l.length - (intOf x).toNat)
  case atStart => exact ⟨0, Nat.zero_le _, rfl, Turn.refl _ _⟩
  case round =>
    obtain ⟨i, hi, rfl, HT⟩ := hrel
    by_cases hlt : i < l.length
    · have hlt' : (i : Int) < (l.length : Int) := by omega
      have hlt3 : (i : Int) < (l.length : Int) + 1 := by omega
      have hlt2 : (i : Int) < ((l.length + 1 : Nat) : Int) := by omega
      obtain ⟨f, hf⟩ : ∃ f, l[i]? = some f := ⟨l[i], List.getElem?_eq_getElem hlt⟩
      have hgl := HE.out.len
      obtain ⟨x, hx⟩ : ∃ x, gs[i]? = some x := ⟨gs[i]'(by omega), List.getElem?_eq_getElem _⟩
      obtain ⟨g, c⟩ := x
      have hfm := List.mem_of_getElem? hf
      have hnb := hb f hfm
      obtain ⟨b, off, ea, hbB, d0, d1⟩ := (HF.out.turn_no HT.out).cells i f hf
      subst ea
      obtain ⟨_, hfb, hfB⟩ := (HF.out.turn_no HT.out).each f hfm
      obtain ⟨va, vc, hvb⟩ := hfb.slice
      rw [hvb] at d1 hfb
      have e1 : (fis l ++ [(markN, [])])[i]? = some (f.nm, f.bs) := by
        rw [List.getElem?_append_left (by rw [fis_len]; exact hlt)]
        simp [fis, hf]
      have e2 : (hdV l gs ++ [.slice none 0 0])[i]? = some (.slice (some ⟨g, 0, none⟩) f.bs.length c) := by
        rw [List.getElem?_append_left (by rw [hdV_len _ _ hgl]; exact hlt)]
        unfold hdV
        rw [List.getElem?_map, zip_at l gs hf hx]
        rfl
      obtain ⟨fg2, fc2, ef2, p0, p1⟩ := (HH.out.turn_no HT.out).at i _ _ e1 e2
      have efg : fg2 = fg := by simp at ef2; exact ef2.1.symm
      subst efg
      obtain ⟨ug, uc2, eu, u0⟩ := (HU.out.turn_no HT.out).at hf hx
      rw [fuV_len _ _ hgl] at eu
      obtain ⟨eu1, eu2, eu3⟩ : ua = some ⟨ug, 0, none⟩ ∧ un = l.length ∧ uc = uc2 := by simp at eu; exact eu
      have hunl : (i : Int) < (un : Int) := by omega
      have hO := ((HE.out.turn_no HT.out).each i f (g, c) hf hx).1
      have hbt : Bs wr (.slice (some ⟨g, 0, none⟩) f.bs.length c) f.bs := by
        obtain ⟨a', c', e, _, hB⟩ := take_bs hO f.bs.length (by simp)
        simp at e
        obtain ⟨e1, _, e3⟩ := e
        rw [← e1, ← e3] at hB
        simpa using hB
      have bx := HBX.out wr HT.out
      have hcell : ∀ W, Turn no wr W → W.cell? ⟨w.heap.size, 0, none⟩ = some (.slice (some ⟨b, off, none⟩) l.length cap) ∧ W.cell? ⟨b, off + i * 2, none⟩ = some (.string ⟨f.nm.toArray⟩) ∧ W.cell? ⟨b, off + i * 2 + 1, none⟩ = some (.slice va f.bs.length vc) ∧ W.cell? ⟨fg2, i * 2, none⟩ = some (.string ⟨f.nm.toArray⟩) ∧ W.cell? ⟨fg2, i * 2 + 1, none⟩ = some (.slice (some ⟨g, 0, none⟩) f.bs.length c) ∧ W.cell? ⟨ug, i, none⟩ = some (.slice (some ⟨g, 0, none⟩) (f.bs.length + 3) c) := fun W t => ⟨t.keep bx (fun q => q), t.keep d0 (fun q => q), t.keep d1 (fun q => q), t.keep p0 (fun q => q), t.keep p1 (fun q => q), t.keep u0 (fun q => q)⟩
      have HC := shut hcell
      have hcv1 : ∀ W, Turn no wr W → _ := fun W t => bytes_text (hbt.turn_no t)
      have hcv2 : ∀ W, Turn no wr W → _ := fun W t => bytes_text (hfb.turn_no t)
      have HV1 := shut hcv1
      have HV2 := shut hcv2
      have hleft : ∀ W, Turn no wr W → _ := fun W t => left83 W g c f.bs hnb (hO.turn_no t) _ (hfb.turn_no t)
      have HL := shut hleft
      subst eu1
      clear hcell hcv1 hcv2 hleft hO hbt hfb hfB bx d0 d1 p0 p1 u0 ef2 eu eu2 eu3 e1 e2 hf hx hvb hfm hgl m0 m1 c1
      go_wp2_with fail
      refine wp_region_noPanic ?_
      refine wp_region_held_drew (S := fun W => Turn no wr W) (by kernel_rfl) (Turn.refl _ wr).drew (fun hHeld => ?_)
      refine' wpAnyH_take (i := 0) (v := .slice (some ⟨fg2, 0, none⟩) (l.length + 1) fc) rfl (by kernel_rfl) (by kernel_rfl) (by kernel_rfl) (fun _ _ _ h => h) (Or.inl ⟨by kernel_rfl, fun W hW => ?y1⟩) hHeld ?r1
      · go_simp
      refine' wpAnyH_take (i := 1) (v := .int .i64 i) rfl (by kernel_rfl) (by kernel_rfl) (by kernel_rfl) (fun _ _ _ h => h) (Or.inl ⟨by kernel_rfl, fun W hW => ?y2⟩) hHeld ?r2
      · go_simp
      refine' wpAnyH_take (i := 2) (v := .pointer (some ⟨fg2, i * 2, none⟩)) rfl (by kernel_rfl) (by kernel_rfl) (by kernel_rfl) (fun _ _ _ h => h) (Or.inl ⟨by kernel_rfl, fun W hW => ?y3⟩) hHeld ?r3
      · go_simp
      refine' wpAnyH_take (i := 3) (v := .pointer (some ⟨fg2, i * 2, none⟩)) rfl (by kernel_rfl) (by kernel_rfl) (by kernel_rfl) (fun _ _ _ h => h) (Or.inl ⟨by kernel_rfl, fun W hW => ?y4⟩) hHeld ?r4
      · go_simp
      refine' wpAnyH_take (i := 4) (v := .string ⟨f.nm.toArray⟩) rfl (by kernel_rfl) (by kernel_rfl) (by kernel_rfl) (fun _ _ _ h => h) (Or.inl ⟨by kernel_rfl, fun W hW => ?y5⟩) hHeld ?r5
      · have z := (HC.out W hW).2.2.2.1
        go_simp
      refine' wpAnyH_take (i := 5) (v := .pointer (some ⟨w.heap.size, 0, none⟩)) rfl (by kernel_rfl) (by kernel_rfl) (by kernel_rfl) (fun _ _ _ h => h) (Or.inl ⟨by kernel_rfl, fun W hW => ?y6⟩) hHeld ?r6
      · go_simp
      refine' wpAnyH_take (i := 6) (v := .slice (some ⟨b, off, none⟩) l.length cap) rfl (by kernel_rfl) (by kernel_rfl) (by kernel_rfl) (fun _ _ _ h => h) (Or.inl ⟨by kernel_rfl, fun W hW => ?y7⟩) hHeld ?r7
      · have z := (HC.out W hW).1
        go_simp
      refine' wpAnyH_take (i := 7) (v := .int .i64 i) rfl (by kernel_rfl) (by kernel_rfl) (by kernel_rfl) (fun _ _ _ h => h) (Or.inl ⟨by kernel_rfl, fun W hW => ?y8⟩) hHeld ?r8
      · go_simp
      refine' wpAnyH_take (i := 8) (v := .pointer (some ⟨b, off + i * 2, none⟩)) rfl (by kernel_rfl) (by kernel_rfl) (by kernel_rfl) (fun _ _ _ h => h) (Or.inl ⟨by kernel_rfl, fun W hW => ?y9⟩) hHeld ?r9
      · go_simp
      refine' wpAnyH_take (i := 9) (v := .pointer (some ⟨b, off + i * 2, none⟩)) rfl (by kernel_rfl) (by kernel_rfl) (by kernel_rfl) (fun _ _ _ h => h) (Or.inl ⟨by kernel_rfl, fun W hW => ?y10⟩) hHeld ?r10
      · go_simp
      refine' wpAnyH_take (i := 10) (v := .string ⟨f.nm.toArray⟩) rfl (by kernel_rfl) (by kernel_rfl) (by kernel_rfl) (fun _ _ _ h => h) (Or.inl ⟨by kernel_rfl, fun W hW => ?y11⟩) hHeld ?r11
      · have z := (HC.out W hW).2.1
        go_simp
      refine' wpAnyH_take (i := 11) (v := .bool false) rfl (by kernel_rfl) (by kernel_rfl) (by kernel_rfl) (fun _ _ _ h => h) (Or.inl ⟨by kernel_rfl, fun W hW => ?y12⟩) hHeld ?r12
      · go_simp
      refine' wpAnyH_take (i := 12) (v := .bool false) rfl (by kernel_rfl) (by kernel_rfl) (by kernel_rfl) (fun _ _ _ h => h) (Or.inl ⟨by kernel_rfl, fun W hW => ?y13⟩) hHeld ?r13
      · go_simp
      refine' wpAnyH_take (i := 13) (v := .slice (some ⟨fg2, 0, none⟩) (l.length + 1) fc) rfl (by kernel_rfl) (by kernel_rfl) (by kernel_rfl) (fun _ _ _ h => h) (Or.inl ⟨by kernel_rfl, fun W hW => ?y14⟩) hHeld ?r14
      · go_simp
      refine' wpAnyH_take (i := 14) (v := .int .i64 i) rfl (by kernel_rfl) (by kernel_rfl) (by kernel_rfl) (fun _ _ _ h => h) (Or.inl ⟨by kernel_rfl, fun W hW => ?y15⟩) hHeld ?r15
      · go_simp
      refine' wpAnyH_take (i := 15) (v := .pointer (some ⟨fg2, i * 2, none⟩)) rfl (by kernel_rfl) (by kernel_rfl) (by kernel_rfl) (fun _ _ _ h => h) (Or.inl ⟨by kernel_rfl, fun W hW => ?y16⟩) hHeld ?r16
      · go_simp
      refine' wpAnyH_take (i := 16) (v := .pointer (some ⟨fg2, i * 2 + 1, none⟩)) rfl (by kernel_rfl) (by kernel_rfl) (by kernel_rfl) (fun _ _ _ h => h) (Or.inl ⟨by kernel_rfl, fun W hW => ?y17⟩) hHeld ?r17
      · go_simp
      refine' wpAnyH_take (i := 17) (v := .slice (some ⟨g, 0, none⟩) f.bs.length c) rfl (by kernel_rfl) (by kernel_rfl) (by kernel_rfl) (fun _ _ _ h => h) (Or.inl ⟨by kernel_rfl, fun W hW => ?y18⟩) hHeld ?r18
      · have z := (HC.out W hW).2.2.2.2.1
        go_simp
      refine' wpAnyH_take (i := 18) (v := .string ⟨f.bs.toArray⟩) rfl (by kernel_rfl) (by kernel_rfl) (by kernel_rfl) (fun _ _ _ h => h) (Or.inl ⟨by kernel_rfl, fun W hW => ?y19⟩) hHeld ?r19
      · have z := HV1.out W hW
        go_simp
      refine' wpAnyH_take (i := 19) (v := .pointer (some ⟨w.heap.size, 0, none⟩)) rfl (by kernel_rfl) (by kernel_rfl) (by kernel_rfl) (fun _ _ _ h => h) (Or.inl ⟨by kernel_rfl, fun W hW => ?y20⟩) hHeld ?r20
      · go_simp
      refine' wpAnyH_take (i := 20) (v := .slice (some ⟨b, off, none⟩) l.length cap) rfl (by kernel_rfl) (by kernel_rfl) (by kernel_rfl) (fun _ _ _ h => h) (Or.inl ⟨by kernel_rfl, fun W hW => ?y21⟩) hHeld ?r21
      · have z := (HC.out W hW).1
        go_simp
      refine' wpAnyH_take (i := 21) (v := .int .i64 i) rfl (by kernel_rfl) (by kernel_rfl) (by kernel_rfl) (fun _ _ _ h => h) (Or.inl ⟨by kernel_rfl, fun W hW => ?y22⟩) hHeld ?r22
      · go_simp
      refine' wpAnyH_take (i := 22) (v := .pointer (some ⟨b, off + i * 2, none⟩)) rfl (by kernel_rfl) (by kernel_rfl) (by kernel_rfl) (fun _ _ _ h => h) (Or.inl ⟨by kernel_rfl, fun W hW => ?y23⟩) hHeld ?r23
      · go_simp
      refine' wpAnyH_take (i := 23) (v := .pointer (some ⟨b, off + i * 2 + 1, none⟩)) rfl (by kernel_rfl) (by kernel_rfl) (by kernel_rfl) (fun _ _ _ h => h) (Or.inl ⟨by kernel_rfl, fun W hW => ?y24⟩) hHeld ?r24
      · go_simp
      refine' wpAnyH_take (i := 24) (v := .slice va f.bs.length vc) rfl (by kernel_rfl) (by kernel_rfl) (by kernel_rfl) (fun _ _ _ h => h) (Or.inl ⟨by kernel_rfl, fun W hW => ?y25⟩) hHeld ?r25
      · have z := (HC.out W hW).2.2.1
        go_simp
      refine' wpAnyH_take (i := 25) (v := .string ⟨f.bs.toArray⟩) rfl (by kernel_rfl) (by kernel_rfl) (by kernel_rfl) (fun _ _ _ h => h) (Or.inl ⟨by kernel_rfl, fun W hW => ?y26⟩) hHeld ?r26
      · have z := HV2.out W hW
        go_simp
      refine' wpAnyH_take (i := 26) (v := .bool false) rfl (by kernel_rfl) (by kernel_rfl) (by kernel_rfl) (fun _ _ _ h => h) (Or.inl ⟨by kernel_rfl, fun W hW => ?y27⟩) hHeld ?r27
      · go_simp
      refine' wpAnyH_take (i := 27) (v := .bool false) rfl (by kernel_rfl) (by kernel_rfl) (by kernel_rfl) (fun _ _ _ h => h) (Or.inl ⟨by kernel_rfl, fun W hW => ?y28⟩) hHeld ?r28
      · go_simp
      refine' wpAnyH_take (i := 28) (v := .bool false) rfl (by kernel_rfl) (by kernel_rfl) (by kernel_rfl) (fun _ _ _ h => h) (Or.inl ⟨by kernel_rfl, fun W hW => ?y29⟩) hHeld ?r29
      · go_simp
      refine' wpAnyH_take (i := 29) (v := .slice (some ⟨ug, 0, none⟩) un uc) rfl (by kernel_rfl) (by kernel_rfl) (by kernel_rfl) (fun _ _ _ h => h) (Or.inl ⟨by kernel_rfl, fun W hW => ?y30⟩) hHeld ?r30
      · go_simp
      refine' wpAnyH_take (i := 30) (v := .int .i64 i) rfl (by kernel_rfl) (by kernel_rfl) (by kernel_rfl) (fun _ _ _ h => h) (Or.inl ⟨by kernel_rfl, fun W hW => ?y31⟩) hHeld ?r31
      · go_simp
      refine' wpAnyH_take (i := 31) (v := .pointer (some ⟨ug, i, none⟩)) rfl (by kernel_rfl) (by kernel_rfl) (by kernel_rfl) (fun _ _ _ h => h) (Or.inl ⟨by kernel_rfl, fun W hW => ?y32⟩) hHeld ?r32
      · go_simp
      refine' wpAnyH_take (i := 32) (v := .slice (some ⟨g, 0, none⟩) (f.bs.length + 3) c) rfl (by kernel_rfl) (by kernel_rfl) (by kernel_rfl) (fun _ _ _ h => h) (Or.inl ⟨by kernel_rfl, fun W hW => ?y33⟩) hHeld ?r33
      · have z := (HC.out W hW).2.2.2.2.2
        go_simp
      refine' wpAnyH_take (i := 33) (v := .pointer (some ⟨w.heap.size, 0, none⟩)) rfl (by kernel_rfl) (by kernel_rfl) (by kernel_rfl) (fun _ _ _ h => h) (Or.inl ⟨by kernel_rfl, fun W hW => ?y34⟩) hHeld ?r34
      · go_simp
      refine' wpAnyH_take (i := 34) (v := .slice (some ⟨b, off, none⟩) l.length cap) rfl (by kernel_rfl) (by kernel_rfl) (by kernel_rfl) (fun _ _ _ h => h) (Or.inl ⟨by kernel_rfl, fun W hW => ?y35⟩) hHeld ?r35
      · have z := (HC.out W hW).1
        go_simp
      refine' wpAnyH_take (i := 35) (v := .int .i64 i) rfl (by kernel_rfl) (by kernel_rfl) (by kernel_rfl) (fun _ _ _ h => h) (Or.inl ⟨by kernel_rfl, fun W hW => ?y36⟩) hHeld ?r36
      · go_simp
      refine' wpAnyH_take (i := 36) (v := .pointer (some ⟨b, off + i * 2, none⟩)) rfl (by kernel_rfl) (by kernel_rfl) (by kernel_rfl) (fun _ _ _ h => h) (Or.inl ⟨by kernel_rfl, fun W hW => ?y37⟩) hHeld ?r37
      · go_simp
      refine' wpAnyH_take (i := 37) (v := .pointer (some ⟨b, off + i * 2 + 1, none⟩)) rfl (by kernel_rfl) (by kernel_rfl) (by kernel_rfl) (fun _ _ _ h => h) (Or.inl ⟨by kernel_rfl, fun W hW => ?y38⟩) hHeld ?r38
      · go_simp
      refine' wpAnyH_take (i := 38) (v := .slice va f.bs.length vc) rfl (by kernel_rfl) (by kernel_rfl) (by kernel_rfl) (fun _ _ _ h => h) (Or.inl ⟨by kernel_rfl, fun W hW => ?y39⟩) hHeld ?r39
      · have z := (HC.out W hW).2.2.1
        go_simp
      refine wpAnyH_ready (rs := [39]) (by kernel_rfl) (by simp) ?_
      refine AllReadyH.cons rfl (fun K hK => ?_) AllReadyH.nil
      go_simp
      refine (HL.out _ hHeld).mono ?_
      rintro e w3 ⟨rfl, t3⟩
      have S3 : Turn no wr w3 := ((Turn.refl no wr).drew).then_no t3
      go_wp2_with fail
      refine hK.out _ _ S3 (fun hHeld => ?_)
      clear hK
      refine' wpAnyH_take (i := 40) (v := .bool false) rfl (by kernel_rfl) (by kernel_rfl) (by kernel_rfl) (fun _ _ _ h => h) (Or.inl ⟨by kernel_rfl, fun W hW => ?y40⟩) hHeld ?r40
      · go_simp
      refine' wpAnyH_take (i := 41) (v := .bool false) rfl (by kernel_rfl) (by kernel_rfl) (by kernel_rfl) (fun _ _ _ h => h) (Or.inl ⟨by kernel_rfl, fun W hW => ?y41⟩) hHeld ?r41
      · go_simp
      refine wpAnyH_done (by kernel_rfl) ?_ _
      refine NoPanic.normal ?_
      go_wp2_with fail
      go_roundw
      case rel => exact ⟨i + 1, by omega, by go_num, HT.out.then_no S3⟩
      case measure => simp [intOf]; omega
    · have hlt' : ¬ (i : Int) < (l.length : Int) := by omega
      go_wp2_with fail
      go_ret
      exact ⟨rfl, HT1.out.then_no HT.out⟩
end Go.Proofs.Ytcdogciacchigab

-- Of the law: made.
namespace Go.Proofs.Ytcdogciacchigab
open Go.RowKit Go.Maps
set_option linter.unusedVariables false

/-- What made answers. -/
def Md (w : World) (e : Ending) (w' : World) : Prop := Turn no w w' ∧ ((∃ p q s, e = .returned (.tuple #[.agg #[ptr p, ptr q], .bool true]) ∧ Pr w.heap.size no w' p q s s ∧ s.n = 0 ∧ s.m = 0 ∧ s.off = false) ∨ e = .returned (.tuple #[.agg #[.pointer none, .pointer none], .bool true]))
/-- Both made. -/
theorem Pr.of {B : Nat} {w0 w1 w2 : World} {p q : Nat} {K L : Nat → Prop} {s : St} (t0 : B ≤ w0.heap.size) (h1 : Dk w1 p K s) (hK : From w0 no K) (t1 : Turn no w0 w1) (h2 : Rk w2 q L s) (hL : From w1 no L) (t2 : Turn no w1 w2) : Pr B no w2 p q s s := by
  have hlt := h1.klt
  have s1 := t1.size
  have hK' : ∀ k, K k → w0.heap.size ≤ k := fun k hk => (hK k hk).elim (fun e => e.elim) id
  have hL' : ∀ k, L k → w1.heap.size ≤ k := fun k hk => (hL k hk).elim (fun e => e.elim) id
  exact ⟨K, L, h1.turn_no t2, h2, fun k hk hk' => by have := hlt k hk; have := hL' k hk'; omega, fun k hk => ⟨by have := hK' k hk; omega, fun e => e⟩, fun k hk => ⟨by have := hL' k hk; omega, fun e => e⟩⟩
/-- The result, laid down. -/
theorem pair_set {w : World} {g : Nat} {x0 x1 : Value} (r : Row w g #[x0, x1] 55) (a b : Value) : Row ((w.setCell ⟨g, 0, none⟩ a).setCell ⟨g, 1, none⟩ b) g #[a, b] 55 ∧ Turn (fun k => k = g) w ((w.setCell ⟨g, 0, none⟩ a).setCell ⟨g, 1, none⟩ b) ∧ w.cell? ⟨g, 0, none⟩ = some x0 ∧ w.frozen? ⟨g, 0, none⟩ = false ∧ (w.setCell ⟨g, 0, none⟩ a).cell? ⟨g, 1, none⟩ = some x1 ∧ (w.setCell ⟨g, 0, none⟩ a).frozen? ⟨g, 1, none⟩ = false :=
  ⟨(r.set 0 a).set 1 b, (setTurn w g 0 a).trans (setTurn _ g 1 b) (fun _ _ e => e), r.cell 0 _ rfl, r.frozen 0, (r.set 0 a).cell 1 _ rfl, (r.set 0 a).frozen 1⟩
set_option maxRecDepth 100000 in
set_option maxHeartbeats 16000000 in
theorem made32_new (w : World) (m : Mx) (a : Option Addr) (cap : Nat) (hmt : m.mt = false) : Calls Try.prog 32 #[.agg (mxC m a cap)] w (Md w) := by
  obtain ⟨lim, mt, l⟩ := m
  simp only at hmt
  subst hmt
  unfold mxC
  simp only
  obtain ⟨N, hN⟩ : ∃ N, l.length = N := ⟨_, rfl⟩
  rw [hN]
  clear hN
  obtain ⟨w1, hw1⟩ : ∃ w1, (w.alloc (.cells #[.int .i64 lim, .bool false, .slice a N cap] 26)).alloc (.cells #[.pointer none, .pointer none] 55) = w1 := ⟨_, rfl⟩
  have T1 : Turn no w w1 := by rw [← hw1]; exact ((Turn.refl no w).alloc _).alloc _
  have s1 : w1.heap.size = w.heap.size + 2 := by rw [← hw1]; simp
  have r1 : Row w1 w.heap.size #[.int .i64 lim, .bool false, .slice a N cap] 26 := by rw [← hw1]; exact (Row.new w _ 26).alloc _
  have r2 : Row w1 (w.heap.size + 1) #[.pointer none, .pointer none] 55 := by rw [← hw1]; exact Row.newAt _ _ 55 _ (by simp)
  have x0 := r1.cell 0 _ rfl
  have x1 := r1.cell 1 _ rfl
  have HNUM := shut num10
  have HS1 := shut s1
  have HR1 := shut r1
  have HR2 := shut r2
  have HT1 := shut T1
  clear s1 r1 r2 T1
  by_cases hbad : lim < 1 ∨ 1073741824 < lim
  · have hn1 := new9_no w1 lim hbad
    have hn2 := rnew19_no w1 lim hbad
    obtain ⟨q1, q2, q3, q4, q5, q6⟩ := pair_set HR2.out (.pointer none) (.pointer none)
    have FIN : Shut (Turn no w ((w1.setCell ⟨w.heap.size + 1, 0, none⟩ (.pointer none)).setCell ⟨w.heap.size + 1, 1, none⟩ (.pointer none))) := HT1.out.trans q2 (fun k hk e => by omega)
    have HQ1 := shut q1
    clear q1 q2 hbad
    go_enter Try.func32, Try.ntmps32
    go_wp2_with fail
    try rw [hw1]
    refine hn1.mono ?_
    clear hn1
    rintro e w' ⟨rfl, rfl⟩
    go_wp2_with fail
    refine hn2.mono ?_
    clear hn2
    rintro e w' ⟨rfl, rfl⟩
    go_wp2_with fail
    refine (HNUM.out _ _).mono ?_
    rintro e w' ⟨rfl, rfl⟩
    go_wp2_with fail
    refine (HNUM.out _ _).mono ?_
    rintro e w' ⟨rfl, rfl⟩
    go_wp2_with fail
    refine ⟨rfl, _, results_cell_row_tmp (g := w.heap.size + 1) (cs := #[.pointer none, .pointer none]) (t := 55) rfl _ _ _ _ rfl HQ1.out Try.underlying55 rfl (by kernel_rfl), FIN.out, Or.inr rfl⟩
  · have hlo : 1 ≤ lim := by omega
    have hhi : lim ≤ 1073741824 := by omega
    obtain ⟨L, rfl⟩ : ∃ L : Nat, lim = (L : Int) := ⟨lim.toNat, by omega⟩
    have hn1 := new9 w1 L (by omega) (by omega)
    have hn2 := fun W => rnew19 W L (by omega) (by omega)
    have HN2 := shut hn2
    clear hn2 hbad hlo hhi
    go_enter Try.func32, Try.ntmps32
    go_wp2_with fail
    try rw [hw1]
    refine hn1.mono ?_
    clear hn1
    rintro e w2 ⟨p, K, rfl, hp, hD, hK, t2⟩
    have y0 := t2.keep x0 (fun e => e)
    have HD := shut hD
    have HK := shut hK
    have HT2 := shut t2
    clear hD hK t2
    unfold ptr
    go_wp2_with fail
    refine (HN2.out _).mono ?_
    rintro e w3 ⟨q, L', rfl, hq, hR, hL, t3⟩
    have hP := Pr.of (B := w.heap.size) (by have := HS1.out; omega) HD.out HK.out HT2.out hR hL t3
    have T3 := (HT1.out.then_no HT2.out).then_no t3
    have r3 := (HR2.out.turn HT2.out (fun e => e)).turn t3 (fun e => e)
    obtain ⟨q1, q2, q3, q4, q5, q6⟩ := pair_set r3 (.pointer (some ⟨p, 0, none⟩)) (.pointer (some ⟨q, 0, none⟩))
    have FIN : Shut (Turn no w ((w3.setCell ⟨w.heap.size + 1, 0, none⟩ (.pointer (some ⟨p, 0, none⟩))).setCell ⟨w.heap.size + 1, 1, none⟩ (.pointer (some ⟨q, 0, none⟩))) ∧ Pr w.heap.size no ((w3.setCell ⟨w.heap.size + 1, 0, none⟩ (.pointer (some ⟨p, 0, none⟩))).setCell ⟨w.heap.size + 1, 1, none⟩ (.pointer (some ⟨q, 0, none⟩))) p q (newSt L) (newSt L)) := by
      refine ⟨T3.trans q2 (fun k hk e => by omega), ?_⟩
      obtain ⟨K1, L1, a1, a2, a3, a4, a5⟩ := Pr.of (B := w1.heap.size) (Nat.le_refl _) HD.out HK.out HT2.out hR hL t3
      have hs := HS1.out
      exact ⟨K1, L1, a1.turn q2 (fun k hk e => by have := (a4 k hk).1; omega), a2.turn q2 (fun k hk e => by have := (a5 k hk).1; omega), a3, fun k hk => ⟨by have := (a4 k hk).1; omega, fun e => e⟩, fun k hk => ⟨by have := (a5 k hk).1; omega, fun e => e⟩⟩
    have HQ1 := shut q1
    clear q1 q2 hP T3 r3 hR hL t3
    unfold ptr
    go_wp2_with fail
    refine (HNUM.out _ _).mono ?_
    rintro e w' ⟨rfl, rfl⟩
    go_wp2_with fail
    refine (HNUM.out _ _).mono ?_
    rintro e w' ⟨rfl, rfl⟩
    go_wp2_with fail
    refine ⟨rfl, _, results_cell_row_tmp (g := w.heap.size + 1) (cs := #[.pointer (some ⟨p, 0, none⟩), .pointer (some ⟨q, 0, none⟩)]) (t := 55) rfl _ _ _ _ rfl HQ1.out Try.underlying55 rfl (by kernel_rfl), FIN.out.1, Or.inl ⟨p, q, newSt L, rfl, FIN.out.2, rfl, rfl, rfl⟩⟩
end Go.Proofs.Ytcdogciacchigab

-- Of the law: made, by Mount.
namespace Go.Proofs.Ytcdogciacchigab
open Go.RowKit Go.Maps
set_option linter.unusedVariables false

/-- While the files are written over. -/
structure Sp (B : Nat) (X : Nat → Prop) (w4 wr : World) (uv : Value) (l : List Fx) (gs : List (Nat × Nat)) (i : Nat) : Prop where
  fu : Fu B wr uv l gs
  each : ∀ (j : Nat) (f : Fx) (x : Nat × Nat), i ≤ j → l[j]? = some f → gs[j]? = some x → Own wr 5 (.slice (some ⟨x.1, 0, none⟩) (f.bs.length + 3) x.2) ((f.bs ++ marks).map bv)
  turn : Turn X w4 wr
theorem Sp.step {B : Nat} {X : Nat → Prop} {w4 wr w' : World} {uv : Value} {l : List Fx} {gs : List (Nat × Nat)} {i : Nat} {f : Fx} {x : Nat × Nat} (h : Sp B X w4 wr uv l gs i) (hrise : ∀ (i j : Nat) (x y : Nat × Nat), i < j → gs[i]? = some x → gs[j]? = some y → x.1 < y.1) (hX : X x.1) (hf : l[i]? = some f) (hx : gs[i]? = some x) (t : Turn (fun k => k = x.1) wr w') : Sp B X w4 w' uv l gs (i + 1) := by
  have ho := h.each i f x (Nat.le_refl _) hf hx
  refine ⟨h.fu.turn t (fun g hg e => ?_), fun j f' y hj hf' hy => (h.each j f' y (by omega) hf' hy).turn t (fun g hg e => ?_), h.turn.trans t (fun k _ e => by rw [e]; exact hX)⟩
  · obtain ⟨c1, e1⟩ := h.fu.1.obj hg
    obtain ⟨c2, e2⟩ := ho.obj (g := x.1) rfl
    rw [e] at e1
    exact absurd (tag_ne e1 e2) (by decide)
  · cases hg
    have := hrise i j x y (by omega) hx hy
    simp only at e
    omega
theorem Fh.row {B : Nat} {w : World} {g n c : Nat} {l : List Fi} {vs : List Value} (h : Fh B w (.slice (some ⟨g, 0, none⟩) n c) l vs) : ∃ cs, Row w g cs 66 ∧ cs.size = c * 2 ∧ n ≤ c := by
  obtain ⟨h1, h2, h3⟩ := h
  rcases h2.2 with ⟨e, _⟩ | ⟨g', cap, cur, e, _, ho, h4, h5, h6, _⟩
  · cases e
  · cases e
    exact ⟨cur, ho, h6, by omega⟩
set_option maxRecDepth 100000 in
set_option maxHeartbeats 16000000 in
theorem made32_bad {B : Nat} (w : World) (m : Mx) (a : Option Addr) (cap : Nat) (hmt : m.mt = true) (hok : mOk m.lim m.l = false) (hF : Fs B w a cap m.l) (hBw : B ≤ w.heap.size) (hl : m.l.length ≤ 3518437208780) (hb : ∀ f ∈ m.l, f.bs.length ≤ 140737488351232) : Calls Try.prog 32 #[.agg (mxC m a cap)] w (Md w) := by
  obtain ⟨lim, mt, l⟩ := m
  simp only at hmt hok hF hl hb
  subst hmt
  unfold mxC
  simp only
  obtain ⟨w1, hw1⟩ : ∃ w1, (w.alloc (.cells #[.int .i64 lim, .bool true, .slice a l.length cap] 26)).alloc (.cells #[.pointer none, .pointer none] 55) = w1 := ⟨_, rfl⟩
  have T1 : Turn no w w1 := by rw [← hw1]; exact ((Turn.refl no w).alloc _).alloc _
  have s1 : w1.heap.size = w.heap.size + 2 := by rw [← hw1]; simp
  have r1 : Row w1 w.heap.size #[.int .i64 lim, .bool true, .slice a l.length cap] 26 := by rw [← hw1]; exact (Row.new w _ 26).alloc _
  have r2 : Row w1 (w.heap.size + 1) #[.pointer none, .pointer none] 55 := by rw [← hw1]; exact Row.newAt _ _ 55 _ (by simp)
  have x1 := r1.cell 1 _ rfl
  have x2 := r1.cell 2 _ rfl
  have hhd := handed71 w1 a cap l (hF.turn_no T1) (by omega) hl hb
  have hbx : ∀ W, Turn no w1 W → W.cell? ⟨w.heap.size, 0, none⟩ = some (.int .i64 lim) ∧ W.cell? ⟨w.heap.size, 2, none⟩ = some (.slice a l.length cap) := fun W t => ⟨(r1.turn t (fun e => e)).cell 0 _ rfl, (r1.turn t (fun e => e)).cell 2 _ rfl⟩
  have HBX := shut hbx
  have HNUM := shut num10
  have HS1 := shut s1
  have HR2 := shut r2
  have HT1 := shut T1
  have HF := shut hF
  have HBW := shut hBw
  have HL := shut hl
  have HB := shut hb
  have HOK := shut hok
  clear s1 r1 r2 T1 hbx hF hBw hl hb hok
  go_enter Try.func32, Try.ntmps32
  go_wp2_with fail
  try rw [hw1]
  refine hhd.mono ?_
  clear hhd
  rintro e w2 ⟨fa, fc, ua, un, uc, gs, rfl, ⟨hE, hU, hH⟩, t2⟩
  have hlen := hE.len
  have hFs := Hd.fs (fv := .slice none 0 0) (uv := .slice none 0 0) hE fa (l.length + 1) fc _ _ hH (fun f hf => (HF.out.each f hf).1)
  have hcap : l.length ≤ fc := by
    have := hFs.le
    rw [hdL_len _ _ hlen] at this
    exact this
  have hcap' : (l.length : Int) ≤ (fc : Int) := by omega
  have hcap2 : ¬ (fc : Int) < (l.length : Int) := by omega
  have hfis := fis_hdL l gs hlen
  have hmt : ∀ W, Turn no w2 W → Calls Try.prog 30 #[.agg #[.slice fa l.length fc], .int .i64 lim] W _ := fun W t => by
    have := mount25e w2.heap.size W t.size fa fc (hdL l gs) (hFs.turn_no t) lim
    rw [hdL_len _ _ hlen, mOk_fis lim _ _ hfis, mErr_fis lim _ _ hfis, mSt_fis lim.toNat _ _ hfis, HOK.out] at this
    exact this
  have HMT := shut hmt
  have HE := shut hE
  have HU := shut hU
  have HH := shut hH
  have HT2 := shut t2
  have HUL : Shut (un = l.length) := by
    obtain ⟨_, _, e⟩ : ∃ a c, Value.slice ua un uc = .slice a (fuV l gs).length c := by
      rcases hU.1.shape with ⟨e, qe⟩ | ⟨g, cap, cur, e, _⟩
      · exact ⟨none, 0, by rw [e, qe]; rfl⟩
      · exact ⟨_, _, e⟩
    rw [fuV_len _ _ hlen] at e
    simp at e
    exact e.2.1
  clear hmt hE hU hH t2 hlen hFs hfis hcap x1 x2
  generalize hN1 : l.length + 1 = N1 at *
  have HN1 := shut hN1
  clear hN1
  go_wp2_with fail
  refine wp_region_noPanic ?_
  refine wp_region_held_drew (S := fun W => Turn no w2 W) (by kernel_rfl) (Turn.refl _ w2).drew (fun hHeld => ?_)
  refine' wpAnyH_take (i := 0) (v := .slice fa N1 fc) rfl (by kernel_rfl) (by kernel_rfl) (by kernel_rfl) (fun _ _ _ h => h) (Or.inl ⟨by kernel_rfl, fun W hW => ?y1⟩) hHeld ?r1
  · go_simp
  refine' wpAnyH_take (i := 1) (v := .pointer (some ⟨w.heap.size, 2, none⟩)) rfl (by kernel_rfl) (by kernel_rfl) (by kernel_rfl) (fun _ _ _ h => h) (Or.inl ⟨by kernel_rfl, fun W hW => ?y2⟩) hHeld ?r2
  · go_simp
  refine' wpAnyH_take (i := 2) (v := .pointer (some ⟨w.heap.size, 2, none⟩)) rfl (by kernel_rfl) (by kernel_rfl) (by kernel_rfl) (fun _ _ _ h => h) (Or.inl ⟨by kernel_rfl, fun W hW => ?y3⟩) hHeld ?r3
  · go_simp
  refine' wpAnyH_take (i := 3) (v := .slice a l.length cap) rfl (by kernel_rfl) (by kernel_rfl) (by kernel_rfl) (fun _ _ _ h => h) (Or.inl ⟨by kernel_rfl, fun W hW => ?y4⟩) hHeld ?r4
  · have z := (HBX.out W (HT2.out.then_no hW)).2
    go_simp
  refine' wpAnyH_take (i := 4) (v := .int .i64 l.length) rfl (by kernel_rfl) (by kernel_rfl) (by kernel_rfl) (fun _ _ _ h => h) (Or.inl ⟨by kernel_rfl, fun W hW => ?y5⟩) hHeld ?r5
  · go_simp
  refine' wpAnyH_take (i := 5) (v := .slice fa l.length fc) rfl (by kernel_rfl) (by kernel_rfl) (by kernel_rfl) (fun _ _ _ h => h) (Or.inl ⟨by kernel_rfl, fun W hW => ?y6⟩) hHeld ?r6
  · go_simp
  refine' wpAnyH_take (i := 6) (v := .agg #[.slice fa l.length fc]) rfl (by kernel_rfl) (by kernel_rfl) (by kernel_rfl) (fun _ _ _ h => h) (Or.inl ⟨by kernel_rfl, fun W hW => ?y7⟩) hHeld ?r7
  · go_simp
  refine' wpAnyH_take (i := 7) (v := .pointer (some ⟨w.heap.size, 0, none⟩)) rfl (by kernel_rfl) (by kernel_rfl) (by kernel_rfl) (fun _ _ _ h => h) (Or.inl ⟨by kernel_rfl, fun W hW => ?y8⟩) hHeld ?r8
  · go_simp
  refine' wpAnyH_take (i := 8) (v := .int .i64 lim) rfl (by kernel_rfl) (by kernel_rfl) (by kernel_rfl) (fun _ _ _ h => h) (Or.inl ⟨by kernel_rfl, fun W hW => ?y9⟩) hHeld ?r9
  · have z := (HBX.out W (HT2.out.then_no hW)).1
    go_simp
  refine wpAnyH_ready (rs := [9]) (by kernel_rfl) (by simp) ?_
  refine AllReadyH.cons rfl (fun K hK => ?_) AllReadyH.nil
  go_simp
  refine (HMT.out _ hHeld).mono ?_
  rintro e w3 hh
  rcases hh with ⟨_, rfl, t3⟩ | ⟨hh, _⟩
  rotate_left
  · exact absurd hh (by simp)
  have S3 : Turn no w2 w3 := ((Turn.refl no w2).drew).then_no t3
  have HT3 := shut S3
  clear t3
  go_wp2_with fail
  refine hK.out _ _ S3 (fun hHeld => ?_)
  clear hK
  refine' wpAnyH_take (i := 10) (v := .tuple #[.pointer none, .int .i64 (mErr lim l)]) rfl (by kernel_rfl) (by kernel_rfl) (by kernel_rfl) (fun _ _ _ h => h) (Or.inl ⟨by kernel_rfl, fun W hW => ?y10⟩) hHeld ?r10
  · go_simp
  refine' wpAnyH_take (i := 11) (v := .pointer none) rfl (by kernel_rfl) (by kernel_rfl) (by kernel_rfl) (fun _ _ _ h => h) (Or.inl ⟨by kernel_rfl, fun W hW => ?y11⟩) hHeld ?r11
  · go_simp
  refine' wpAnyH_take (i := 12) (v := .int .i64 (mErr lim l)) rfl (by kernel_rfl) (by kernel_rfl) (by kernel_rfl) (fun _ _ _ h => h) (Or.inl ⟨by kernel_rfl, fun W hW => ?y12⟩) hHeld ?r12
  · go_simp
  refine' wpAnyH_take (i := 13) (v := .pointer none) rfl (by kernel_rfl) (by kernel_rfl) (by kernel_rfl) (fun _ _ _ h => h) (Or.inl ⟨by kernel_rfl, fun W hW => ?y13⟩) hHeld ?r13
  · go_simp
  refine' wpAnyH_take (i := 14) (v := .int .i64 (mErr lim l)) rfl (by kernel_rfl) (by kernel_rfl) (by kernel_rfl) (fun _ _ _ h => h) (Or.inl ⟨by kernel_rfl, fun W hW => ?y14⟩) hHeld ?r14
  · go_simp
  refine wpAnyH_done (by kernel_rfl) ?_ _
  refine NoPanic.normal ?_
  have T13 := HT2.out.then_no HT3.out
  have hrm := rmount72 B w3 (by have := HBW.out; have := HT1.out.size; have := T13.size; omega) a cap l ((HF.out.turn_no HT1.out).turn_no T13) HB.out lim
  rw [HOK.out] at hrm
  obtain ⟨y0, y2⟩ := HBX.out w3 T13
  have HT13 := shut T13
  clear T13 S3 HMT
  go_wp2_with fail
  refine hrm.mono ?_
  clear hrm
  rintro e w4 hh
  rcases hh with ⟨_, rfl, t4⟩ | ⟨hh, _⟩
  rotate_left
  · exact absurd hh (by simp)
  have HT4 := shut t4
  clear t4
  have T14 := HT13.out.then_no HT4.out
  have T24 := HT3.out.then_no HT4.out
  have hun := untouched73 w4 a cap l ((HF.out.turn_no HT1.out).turn_no T14) HL.out HB.out fa fc ua un uc gs (HE.out.turn_no T24) (HU.out.turn_no T24) (by rw [HN1.out]; exact HH.out.turn_no T24)
  rw [HN1.out] at hun
  have y4 := (HBX.out w4 T14).2
  have HT14 := shut T14
  have HT24 := shut T24
  clear T14 T24 y0 y2
  go_wp2_with fail
  refine hun.mono ?_
  clear hun
  rintro e w5 ⟨rfl, t5⟩
  have HT25 := shut (HT24.out.then_no t5)
  have HT15 := shut (HT14.out.then_no t5)
  clear t5 y4
  obtain ⟨X, hX⟩ : ∃ X : Nat → Prop, X = (fun k => w1.heap.size ≤ k ∧ k < w2.heap.size) := ⟨_, rfl⟩
  have HX := shut hX
  have hX' : ∀ (j : Nat) (x : Nat × Nat), gs[j]? = some x → X x.1 := fun j x hx => by
    rw [hX]
    have hj := (List.getElem?_eq_some_iff.1 hx).1
    have hlen := HE.out.len
    obtain ⟨f, hf⟩ : ∃ f, l[j]? = some f := ⟨l[j]'(by omega), List.getElem?_eq_getElem _⟩
    exact ⟨(HE.out.each j f x hf hx).2, HE.out.lt hx⟩
  have HX' := shut hX'
  have hsp0 : Sp w1.heap.size (fun k => ∃ (j : Nat) (x : Nat × Nat), gs[j]? = some x ∧ x.1 = k) w5 w5 (.slice ua un uc) l gs 0 := ⟨HU.out.turn_no HT25.out, fun j f x _ hf hx => ((HE.out.turn_no HT25.out).each j f x hf hx).1, Turn.refl _ _⟩
  have HSP0 := shut hsp0
  have hl' : l.length ≤ 9223372036854775807 := by have := HL.out; omega
  have hun' : un ≤ 9223372036854775807 := by have := HL.out; have := HUL.out; omega
  have hN1' : N1 ≤ 9223372036854775807 := by have := HL.out; have := HN1.out; omega
  clear hX hX' hsp0
  go_wp2_with fail
  go_loopw [15] (fun x wr => ∃ i : Nat, i ≤ un ∧ x = .int .i64 i ∧ Shut (Sp w1.heap.size (fun k => ∃ (j : Nat) (x : Nat × Nat), gs[j]? = some x ∧ x.1 = k) w5 wr (.slice ua un uc) l gs i)) (fun x _ => un - (intOf x).toNat)
  case atStart => exact ⟨0, Nat.zero_le _, rfl, HSP0⟩
  case round =>
    obtain ⟨i, hi, rfl, HSP⟩ := hrel
    by_cases hlt : i < un
    · have hlt' : (i : Int) < (un : Int) := by omega
      have hll := HUL.out
      obtain ⟨f, hf⟩ : ∃ f, l[i]? = some f := ⟨l[i]'(by omega), List.getElem?_eq_getElem _⟩
      have hlen := HE.out.len
      obtain ⟨⟨g, c⟩, hx⟩ : ∃ x, gs[i]? = some x := ⟨gs[i]'(by omega), List.getElem?_eq_getElem _⟩
      obtain ⟨ug, uc2, eu, u0⟩ := HSP.out.fu.at hf hx
      have eua : ua = some ⟨ug, 0, none⟩ := by simp at eu; exact eu.1
      subst eua
      have hO := HSP.out.each i f (g, c) (Nat.le_refl _) hf hx
      have hl3 : (f.bs ++ marks).length = f.bs.length + 3 := by simp [marks]
      have hspo := spoil26 wr g c (f.bs ++ marks) (by rw [hl3]; have := HB.out f (List.mem_of_getElem? hf); omega) (by rw [hl3]; exact hO)
      rw [hl3] at hspo
      have HST := shut (fun w' t => HSP.out.step (w' := w') HE.out.rise ⟨i, (g, c), hx, rfl⟩ hf hx t)
      clear eu hO hl3 hf hx hll hlen
      have u0 : wr.cell? ⟨ug, i, none⟩ = some (.slice (some ⟨g, 0, none⟩) (f.bs.length + 3) c) := u0
      have HLT := shut hlt
      go_wp2_with fail
      refine hspo.mono ?_
      rintro e w' ⟨rfl, _, t⟩
      have HN := shut (HST.out w' t)
      clear t hspo
      go_wp2_with fail
      go_roundw
      case rel => exact ⟨i + 1, by have := HLT.out; omega, by go_num, HN⟩
      case measure => have := HLT.out; simp [intOf]; omega
    · have hlt' : ¬ (i : Int) < (un : Int) := by omega
      have HTS := shut HSP.out.turn
      clear HSP
      obtain ⟨fg, efa⟩ : ∃ fg, fa = some ⟨fg, 0, none⟩ := by
        have h := HH.out.2.1
        rcases h.2 with ⟨_, qe⟩ | ⟨g, _, _, e, _⟩
        · simp [fis_len] at qe
        · simp at e; exact ⟨g, e.1⟩
      subst efa
      obtain ⟨cs, hcr, hcs, hcn⟩ := (HH.out.turn_no HT25.out).row
      have hXf : X fg := by rw [HX.out]; exact ⟨HH.out.2.2 fg rfl, HH.out.2.1.lt rfl⟩
      have HXF := shut hXf
      have hff : Row wr fg cs 66 := hcr.turn HTS.out (fun ⟨j, x, hx, ex⟩ => by
        obtain ⟨c1, e1⟩ := (HE.out.turn_no HT25.out).tag hx
        rw [ex] at e1
        exact absurd (tag_ne hcr e1) (by decide))
      have HTX : Shut (Turn X w5 wr) := HTS.out.mono (fun k _ ⟨j, x, hx, ex⟩ => by rw [← ex]; exact HX'.out j x hx)
      have HFF := shut hff
      have HCS := shut hcs
      have HCN := shut hcn
      clear hcr hff hcs hcn hXf
      go_wp2_with fail
      go_loopw [16] (fun x w7 => ∃ (i : Nat) (cs : Array Value), i ≤ N1 ∧ x = .int .i64 i ∧ Shut (Row w7 fg cs 66) ∧ Shut (cs.size = fc * 2) ∧ Shut (Turn X w5 w7)) (fun x _ => N1 - (intOf x).toNat)
      case atStart => exact ⟨0, cs, Nat.zero_le _, rfl, HFF, HCS, HTX⟩
      case round =>
        obtain ⟨j, cs2, hj, rfl, HR7, HC7, HT7⟩ := hrel
        by_cases hlj : j < N1
        · have hlj' : (j : Int) < (N1 : Int) := by omega
          have hsz : j * 2 < cs2.size := by have := HC7.out; have := HCN.out; omega
          have cc := HR7.out.cell (j * 2) cs2[j * 2] (by simp [hsz])
          have ff := HR7.out.frozen (j * 2)
          have HR8 := shut (HR7.out.set (j * 2) (.string ⟨#[120]⟩))
          have HT8 : Shut (Turn X w5 (wr.setCell ⟨fg, j * 2, none⟩ (.string ⟨#[120]⟩))) := HT7.out.setCell (p := ⟨fg, j * 2, none⟩) (fun _ => HXF.out) _
          have HC8 : Shut ((cs2.setIfInBounds (j * 2) (.string ⟨#[120]⟩)).size = fc * 2) := (Array.size_setIfInBounds).trans HC7.out
          generalize cs2[j * 2] = cx at cc
          clear hsz
          go_wp2_with fail
          go_roundw
          case rel => exact ⟨j + 1, _, by omega, by go_num, HR8, HC8, HT8⟩
          case measure => simp [intOf]; omega
        · have hlj' : ¬ (j : Int) < (N1 : Int) := by omega
          have r7 := (HR2.out.turn HT15.out (fun e => e)).turn HT7.out (fun e => by rw [HX.out] at e; have := HS1.out; omega)
          obtain ⟨q1, q2, q3, q4, q5, q6⟩ := pair_set r7 (.pointer none) (.pointer none)
          have FIN : Shut (Turn no w ((wr.setCell ⟨w.heap.size + 1, 0, none⟩ (.pointer none)).setCell ⟨w.heap.size + 1, 1, none⟩ (.pointer none))) := ((HT1.out.then_no HT15.out).trans HT7.out (fun k hk e => by rw [HX.out] at e; have := HS1.out; omega)).trans q2 (fun k hk e => by omega)
          have HQ1 := shut q1
          clear q1 q2 r7
          go_wp2_with fail
          refine (HNUM.out _ _).mono ?_
          rintro e w' ⟨rfl, rfl⟩
          go_wp2_with fail
          refine (HNUM.out _ _).mono ?_
          rintro e w' ⟨rfl, rfl⟩
          go_wp2_with fail
          refine ⟨rfl, _, results_cell_row_tmp (g := w.heap.size + 1) (cs := #[.pointer none, .pointer none]) (t := 55) rfl _ _ _ _ rfl HQ1.out Try.underlying55 rfl (by kernel_rfl), FIN.out, Or.inr rfl⟩
set_option maxRecDepth 100000 in
set_option maxHeartbeats 16000000 in
theorem made32_ok {B : Nat} (w : World) (m : Mx) (a : Option Addr) (cap : Nat) (hmt : m.mt = true) (hok : mOk m.lim m.l = true) (hF : Fs B w a cap m.l) (hBw : B ≤ w.heap.size) (hl : m.l.length ≤ 3518437208780) (hb : ∀ f ∈ m.l, f.bs.length ≤ 140737488351232) : Calls Try.prog 32 #[.agg (mxC m a cap)] w (Md w) := by
  obtain ⟨lim, mt, l⟩ := m
  simp only at hmt hok hF hl hb
  subst hmt
  unfold mxC
  simp only
  obtain ⟨w1, hw1⟩ : ∃ w1, (w.alloc (.cells #[.int .i64 lim, .bool true, .slice a l.length cap] 26)).alloc (.cells #[.pointer none, .pointer none] 55) = w1 := ⟨_, rfl⟩
  have T1 : Turn no w w1 := by rw [← hw1]; exact ((Turn.refl no w).alloc _).alloc _
  have s1 : w1.heap.size = w.heap.size + 2 := by rw [← hw1]; simp
  have r1 : Row w1 w.heap.size #[.int .i64 lim, .bool true, .slice a l.length cap] 26 := by rw [← hw1]; exact (Row.new w _ 26).alloc _
  have r2 : Row w1 (w.heap.size + 1) #[.pointer none, .pointer none] 55 := by rw [← hw1]; exact Row.newAt _ _ 55 _ (by simp)
  have x1 := r1.cell 1 _ rfl
  have x2 := r1.cell 2 _ rfl
  have hhd := handed71 w1 a cap l (hF.turn_no T1) (by omega) hl hb
  have hbx : ∀ W, Turn no w1 W → W.cell? ⟨w.heap.size, 0, none⟩ = some (.int .i64 lim) ∧ W.cell? ⟨w.heap.size, 2, none⟩ = some (.slice a l.length cap) := fun W t => ⟨(r1.turn t (fun e => e)).cell 0 _ rfl, (r1.turn t (fun e => e)).cell 2 _ rfl⟩
  have HBX := shut hbx
  have HNUM := shut num10
  have HS1 := shut s1
  have HR2 := shut r2
  have HT1 := shut T1
  have HF := shut hF
  have HBW := shut hBw
  have HL := shut hl
  have HB := shut hb
  have HOK := shut hok
  clear s1 r1 r2 T1 hbx hF hBw hl hb hok
  go_enter Try.func32, Try.ntmps32
  go_wp2_with fail
  try rw [hw1]
  refine hhd.mono ?_
  clear hhd
  rintro e w2 ⟨fa, fc, ua, un, uc, gs, rfl, ⟨hE, hU, hH⟩, t2⟩
  have hlen := hE.len
  have hFs := Hd.fs (fv := .slice none 0 0) (uv := .slice none 0 0) hE fa (l.length + 1) fc _ _ hH (fun f hf => (HF.out.each f hf).1)
  have hcap : l.length ≤ fc := by
    have := hFs.le
    rw [hdL_len _ _ hlen] at this
    exact this
  have hcap' : (l.length : Int) ≤ (fc : Int) := by omega
  have hcap2 : ¬ (fc : Int) < (l.length : Int) := by omega
  have hfis := fis_hdL l gs hlen
  have hmt : ∀ W, Turn no w2 W → Calls Try.prog 30 #[.agg #[.slice fa l.length fc], .int .i64 lim] W _ := fun W t => by
    have := mount25e w2.heap.size W t.size fa fc (hdL l gs) (hFs.turn_no t) lim
    rw [hdL_len _ _ hlen, mOk_fis lim _ _ hfis, mErr_fis lim _ _ hfis, mSt_fis lim.toNat _ _ hfis, HOK.out] at this
    exact this
  have HMT := shut hmt
  have HE := shut hE
  have HU := shut hU
  have HH := shut hH
  have HT2 := shut t2
  have HUL : Shut (un = l.length) := by
    obtain ⟨_, _, e⟩ : ∃ a c, Value.slice ua un uc = .slice a (fuV l gs).length c := by
      rcases hU.1.shape with ⟨e, qe⟩ | ⟨g, cap, cur, e, _⟩
      · exact ⟨none, 0, by rw [e, qe]; rfl⟩
      · exact ⟨_, _, e⟩
    rw [fuV_len _ _ hlen] at e
    simp at e
    exact e.2.1
  clear hmt hE hU hH t2 hlen hFs hfis hcap x1 x2
  generalize hN1 : l.length + 1 = N1 at *
  have HN1 := shut hN1
  clear hN1
  go_wp2_with fail
  refine wp_region_noPanic ?_
  refine wp_region_held_drew (S := fun W => Turn no w2 W) (by kernel_rfl) (Turn.refl _ w2).drew (fun hHeld => ?_)
  refine' wpAnyH_take (i := 0) (v := .slice fa N1 fc) rfl (by kernel_rfl) (by kernel_rfl) (by kernel_rfl) (fun _ _ _ h => h) (Or.inl ⟨by kernel_rfl, fun W hW => ?y15⟩) hHeld ?r15
  · go_simp
  refine' wpAnyH_take (i := 1) (v := .pointer (some ⟨w.heap.size, 2, none⟩)) rfl (by kernel_rfl) (by kernel_rfl) (by kernel_rfl) (fun _ _ _ h => h) (Or.inl ⟨by kernel_rfl, fun W hW => ?y16⟩) hHeld ?r16
  · go_simp
  refine' wpAnyH_take (i := 2) (v := .pointer (some ⟨w.heap.size, 2, none⟩)) rfl (by kernel_rfl) (by kernel_rfl) (by kernel_rfl) (fun _ _ _ h => h) (Or.inl ⟨by kernel_rfl, fun W hW => ?y17⟩) hHeld ?r17
  · go_simp
  refine' wpAnyH_take (i := 3) (v := .slice a l.length cap) rfl (by kernel_rfl) (by kernel_rfl) (by kernel_rfl) (fun _ _ _ h => h) (Or.inl ⟨by kernel_rfl, fun W hW => ?y18⟩) hHeld ?r18
  · have z := (HBX.out W (HT2.out.then_no hW)).2
    go_simp
  refine' wpAnyH_take (i := 4) (v := .int .i64 l.length) rfl (by kernel_rfl) (by kernel_rfl) (by kernel_rfl) (fun _ _ _ h => h) (Or.inl ⟨by kernel_rfl, fun W hW => ?y19⟩) hHeld ?r19
  · go_simp
  refine' wpAnyH_take (i := 5) (v := .slice fa l.length fc) rfl (by kernel_rfl) (by kernel_rfl) (by kernel_rfl) (fun _ _ _ h => h) (Or.inl ⟨by kernel_rfl, fun W hW => ?y20⟩) hHeld ?r20
  · go_simp
  refine' wpAnyH_take (i := 6) (v := .agg #[.slice fa l.length fc]) rfl (by kernel_rfl) (by kernel_rfl) (by kernel_rfl) (fun _ _ _ h => h) (Or.inl ⟨by kernel_rfl, fun W hW => ?y21⟩) hHeld ?r21
  · go_simp
  refine' wpAnyH_take (i := 7) (v := .pointer (some ⟨w.heap.size, 0, none⟩)) rfl (by kernel_rfl) (by kernel_rfl) (by kernel_rfl) (fun _ _ _ h => h) (Or.inl ⟨by kernel_rfl, fun W hW => ?y22⟩) hHeld ?r22
  · go_simp
  refine' wpAnyH_take (i := 8) (v := .int .i64 lim) rfl (by kernel_rfl) (by kernel_rfl) (by kernel_rfl) (fun _ _ _ h => h) (Or.inl ⟨by kernel_rfl, fun W hW => ?y23⟩) hHeld ?r23
  · have z := (HBX.out W (HT2.out.then_no hW)).1
    go_simp
  refine wpAnyH_ready (rs := [9]) (by kernel_rfl) (by simp) ?_
  refine AllReadyH.cons rfl (fun K hK => ?_) AllReadyH.nil
  go_simp
  refine (HMT.out _ hHeld).mono ?_
  rintro e w3 hh
  rcases hh with ⟨hh, _⟩ | ⟨_, p, K, rfl, hp, hD, hK1, t3⟩
  · exact absurd hh (by simp)
  have HD := shut hD
  have HKF := shut hK1
  clear hD hK1 hp
  unfold ptr
  have S3 : Turn no w2 w3 := ((Turn.refl no w2).drew).then_no t3
  have HT3 := shut S3
  clear t3
  go_wp2_with fail
  refine hK.out _ _ S3 (fun hHeld => ?_)
  clear hK
  refine' wpAnyH_take (i := 10) (v := .tuple #[.pointer (some ⟨p, 0, none⟩), .int .i64 0]) rfl (by kernel_rfl) (by kernel_rfl) (by kernel_rfl) (fun _ _ _ h => h) (Or.inl ⟨by kernel_rfl, fun W hW => ?y24⟩) hHeld ?r24
  · go_simp
  refine' wpAnyH_take (i := 11) (v := .pointer (some ⟨p, 0, none⟩)) rfl (by kernel_rfl) (by kernel_rfl) (by kernel_rfl) (fun _ _ _ h => h) (Or.inl ⟨by kernel_rfl, fun W hW => ?y25⟩) hHeld ?r25
  · go_simp
  refine' wpAnyH_take (i := 12) (v := .int .i64 0) rfl (by kernel_rfl) (by kernel_rfl) (by kernel_rfl) (fun _ _ _ h => h) (Or.inl ⟨by kernel_rfl, fun W hW => ?y26⟩) hHeld ?r26
  · go_simp
  refine' wpAnyH_take (i := 13) (v := .pointer (some ⟨p, 0, none⟩)) rfl (by kernel_rfl) (by kernel_rfl) (by kernel_rfl) (fun _ _ _ h => h) (Or.inl ⟨by kernel_rfl, fun W hW => ?y27⟩) hHeld ?r27
  · go_simp
  refine' wpAnyH_take (i := 14) (v := .int .i64 0) rfl (by kernel_rfl) (by kernel_rfl) (by kernel_rfl) (fun _ _ _ h => h) (Or.inl ⟨by kernel_rfl, fun W hW => ?y28⟩) hHeld ?r28
  · go_simp
  refine wpAnyH_done (by kernel_rfl) ?_ _
  refine NoPanic.normal ?_
  have T13 := HT2.out.then_no HT3.out
  have hrm := rmount72 B w3 (by have := HBW.out; have := HT1.out.size; have := T13.size; omega) a cap l ((HF.out.turn_no HT1.out).turn_no T13) HB.out lim
  rw [HOK.out] at hrm
  obtain ⟨y0, y2⟩ := HBX.out w3 T13
  have HT13 := shut T13
  clear T13 S3 HMT
  go_wp2_with fail
  refine hrm.mono ?_
  clear hrm
  rintro e w4 hh
  rcases hh with ⟨hh, _⟩ | ⟨_, q, L, rfl, hq, hR, hL1, t4⟩
  · exact absurd hh (by simp)
  have HP := shut (Pr.of (B := w2.heap.size) (Nat.le_refl _) HD.out (show From w2 no K from HKF.out) (show Turn no w2 w3 from HT3.out) hR hL1 t4)
  clear hR hL1 hq
  unfold ptr
  have HT4 := shut t4
  clear t4
  have T14 := HT13.out.then_no HT4.out
  have T24 := HT3.out.then_no HT4.out
  have hun := untouched73 w4 a cap l ((HF.out.turn_no HT1.out).turn_no T14) HL.out HB.out fa fc ua un uc gs (HE.out.turn_no T24) (HU.out.turn_no T24) (by rw [HN1.out]; exact HH.out.turn_no T24)
  rw [HN1.out] at hun
  have y4 := (HBX.out w4 T14).2
  have HT14 := shut T14
  have HT24 := shut T24
  clear T14 T24 y0 y2
  go_wp2_with fail
  refine hun.mono ?_
  clear hun
  rintro e w5 ⟨rfl, t5⟩
  have HT25 := shut (HT24.out.then_no t5)
  have HT15 := shut (HT14.out.then_no t5)
  have HP5 := shut (HP.out.turn_no t5)
  clear t5 y4
  obtain ⟨X, hX⟩ : ∃ X : Nat → Prop, X = (fun k => w1.heap.size ≤ k ∧ k < w2.heap.size) := ⟨_, rfl⟩
  have HX := shut hX
  have hX' : ∀ (j : Nat) (x : Nat × Nat), gs[j]? = some x → X x.1 := fun j x hx => by
    rw [hX]
    have hj := (List.getElem?_eq_some_iff.1 hx).1
    have hlen := HE.out.len
    obtain ⟨f, hf⟩ : ∃ f, l[j]? = some f := ⟨l[j]'(by omega), List.getElem?_eq_getElem _⟩
    exact ⟨(HE.out.each j f x hf hx).2, HE.out.lt hx⟩
  have HX' := shut hX'
  have hsp0 : Sp w1.heap.size (fun k => ∃ (j : Nat) (x : Nat × Nat), gs[j]? = some x ∧ x.1 = k) w5 w5 (.slice ua un uc) l gs 0 := ⟨HU.out.turn_no HT25.out, fun j f x _ hf hx => ((HE.out.turn_no HT25.out).each j f x hf hx).1, Turn.refl _ _⟩
  have HSP0 := shut hsp0
  have hl' : l.length ≤ 9223372036854775807 := by have := HL.out; omega
  have hun' : un ≤ 9223372036854775807 := by have := HL.out; have := HUL.out; omega
  have hN1' : N1 ≤ 9223372036854775807 := by have := HL.out; have := HN1.out; omega
  clear hX hX' hsp0
  go_wp2_with fail
  go_loopw [15] (fun x wr => ∃ i : Nat, i ≤ un ∧ x = .int .i64 i ∧ Shut (Sp w1.heap.size (fun k => ∃ (j : Nat) (x : Nat × Nat), gs[j]? = some x ∧ x.1 = k) w5 wr (.slice ua un uc) l gs i)) (fun x _ => un - (intOf x).toNat)
  case atStart => exact ⟨0, Nat.zero_le _, rfl, HSP0⟩
  case round =>
    obtain ⟨i, hi, rfl, HSP⟩ := hrel
    by_cases hlt : i < un
    · have hlt' : (i : Int) < (un : Int) := by omega
      have hll := HUL.out
      obtain ⟨f, hf⟩ : ∃ f, l[i]? = some f := ⟨l[i]'(by omega), List.getElem?_eq_getElem _⟩
      have hlen := HE.out.len
      obtain ⟨⟨g, c⟩, hx⟩ : ∃ x, gs[i]? = some x := ⟨gs[i]'(by omega), List.getElem?_eq_getElem _⟩
      obtain ⟨ug, uc2, eu, u0⟩ := HSP.out.fu.at hf hx
      have eua : ua = some ⟨ug, 0, none⟩ := by simp at eu; exact eu.1
      subst eua
      have hO := HSP.out.each i f (g, c) (Nat.le_refl _) hf hx
      have hl3 : (f.bs ++ marks).length = f.bs.length + 3 := by simp [marks]
      have hspo := spoil26 wr g c (f.bs ++ marks) (by rw [hl3]; have := HB.out f (List.mem_of_getElem? hf); omega) (by rw [hl3]; exact hO)
      rw [hl3] at hspo
      have HST := shut (fun w' t => HSP.out.step (w' := w') HE.out.rise ⟨i, (g, c), hx, rfl⟩ hf hx t)
      clear eu hO hl3 hf hx hll hlen
      have u0 : wr.cell? ⟨ug, i, none⟩ = some (.slice (some ⟨g, 0, none⟩) (f.bs.length + 3) c) := u0
      have HLT := shut hlt
      go_wp2_with fail
      refine hspo.mono ?_
      rintro e w' ⟨rfl, _, t⟩
      have HN := shut (HST.out w' t)
      clear t hspo
      go_wp2_with fail
      go_roundw
      case rel => exact ⟨i + 1, by have := HLT.out; omega, by go_num, HN⟩
      case measure => have := HLT.out; simp [intOf]; omega
    · have hlt' : ¬ (i : Int) < (un : Int) := by omega
      have HTS := shut HSP.out.turn
      clear HSP
      obtain ⟨fg, efa⟩ : ∃ fg, fa = some ⟨fg, 0, none⟩ := by
        have h := HH.out.2.1
        rcases h.2 with ⟨_, qe⟩ | ⟨g, _, _, e, _⟩
        · simp [fis_len] at qe
        · simp at e; exact ⟨g, e.1⟩
      subst efa
      obtain ⟨cs, hcr, hcs, hcn⟩ := (HH.out.turn_no HT25.out).row
      have hXf : X fg := by rw [HX.out]; exact ⟨HH.out.2.2 fg rfl, HH.out.2.1.lt rfl⟩
      have HXF := shut hXf
      have hff : Row wr fg cs 66 := hcr.turn HTS.out (fun ⟨j, x, hx, ex⟩ => by
        obtain ⟨c1, e1⟩ := (HE.out.turn_no HT25.out).tag hx
        rw [ex] at e1
        exact absurd (tag_ne hcr e1) (by decide))
      have HTX : Shut (Turn X w5 wr) := HTS.out.mono (fun k _ ⟨j, x, hx, ex⟩ => by rw [← ex]; exact HX'.out j x hx)
      have HFF := shut hff
      have HCS := shut hcs
      have HCN := shut hcn
      clear hcr hff hcs hcn hXf
      go_wp2_with fail
      go_loopw [16] (fun x w7 => ∃ (i : Nat) (cs : Array Value), i ≤ N1 ∧ x = .int .i64 i ∧ Shut (Row w7 fg cs 66) ∧ Shut (cs.size = fc * 2) ∧ Shut (Turn X w5 w7)) (fun x _ => N1 - (intOf x).toNat)
      case atStart => exact ⟨0, cs, Nat.zero_le _, rfl, HFF, HCS, HTX⟩
      case round =>
        obtain ⟨j, cs2, hj, rfl, HR7, HC7, HT7⟩ := hrel
        by_cases hlj : j < N1
        · have hlj' : (j : Int) < (N1 : Int) := by omega
          have hsz : j * 2 < cs2.size := by have := HC7.out; have := HCN.out; omega
          have cc := HR7.out.cell (j * 2) cs2[j * 2] (by simp [hsz])
          have ff := HR7.out.frozen (j * 2)
          have HR8 := shut (HR7.out.set (j * 2) (.string ⟨#[120]⟩))
          have HT8 : Shut (Turn X w5 (wr.setCell ⟨fg, j * 2, none⟩ (.string ⟨#[120]⟩))) := HT7.out.setCell (p := ⟨fg, j * 2, none⟩) (fun _ => HXF.out) _
          have HC8 : Shut ((cs2.setIfInBounds (j * 2) (.string ⟨#[120]⟩)).size = fc * 2) := (Array.size_setIfInBounds).trans HC7.out
          generalize cs2[j * 2] = cx at cc
          clear hsz
          go_wp2_with fail
          go_roundw
          case rel => exact ⟨j + 1, _, by omega, by go_num, HR8, HC8, HT8⟩
          case measure => simp [intOf]; omega
        · have hlj' : ¬ (j : Int) < (N1 : Int) := by omega
          have r7 := (HR2.out.turn HT15.out (fun e => e)).turn HT7.out (fun e => by rw [HX.out] at e; have := HS1.out; omega)
          obtain ⟨q1, q2, q3, q4, q5, q6⟩ := pair_set r7 (.pointer (some ⟨p, 0, none⟩)) (.pointer (some ⟨q, 0, none⟩))
          have FIN : Shut (Turn no w ((wr.setCell ⟨w.heap.size + 1, 0, none⟩ (.pointer (some ⟨p, 0, none⟩))).setCell ⟨w.heap.size + 1, 1, none⟩ (.pointer (some ⟨q, 0, none⟩)))) := ((HT1.out.then_no HT15.out).trans HT7.out (fun k hk e => by rw [HX.out] at e; have := HS1.out; omega)).trans q2 (fun k hk e => by omega)
          have HPF : Shut (Pr w.heap.size no ((wr.setCell ⟨w.heap.size + 1, 0, none⟩ (.pointer (some ⟨p, 0, none⟩))).setCell ⟨w.heap.size + 1, 1, none⟩ (.pointer (some ⟨q, 0, none⟩))) p q (mSt lim.toNat l) (mSt lim.toNat l)) := by
            obtain ⟨K1, L1, a1, a2, a3, a4, a5⟩ := HP5.out
            have hs := HS1.out
            have hs2 := HT2.out.size
            have tt : Turn (fun k => k < w2.heap.size) w5 ((wr.setCell ⟨w.heap.size + 1, 0, none⟩ (.pointer (some ⟨p, 0, none⟩))).setCell ⟨w.heap.size + 1, 1, none⟩ (.pointer (some ⟨q, 0, none⟩))) := (HT7.out.mono (fun k _ e => by rw [HX.out] at e; exact e.2)).trans q2 (fun k hk e => by omega)
            exact ⟨K1, L1, a1.turn tt (fun k hk e => by have := (a4 k hk).1; omega), a2.turn tt (fun k hk e => by have := (a5 k hk).1; omega), a3, fun k hk => ⟨by have := (a4 k hk).1; omega, fun e => e⟩, fun k hk => ⟨by have := (a5 k hk).1; omega, fun e => e⟩⟩
          have HQ1 := shut q1
          clear q1 q2 r7
          go_wp2_with fail
          refine (HNUM.out _ _).mono ?_
          rintro e w' ⟨rfl, rfl⟩
          go_wp2_with fail
          refine (HNUM.out _ _).mono ?_
          rintro e w' ⟨rfl, rfl⟩
          go_wp2_with fail
          refine ⟨rfl, _, results_cell_row_tmp (g := w.heap.size + 1) (cs := #[.pointer (some ⟨p, 0, none⟩), .pointer (some ⟨q, 0, none⟩)]) (t := 55) rfl _ _ _ _ rfl HQ1.out Try.underlying55 rfl (by kernel_rfl), FIN.out, Or.inl ⟨p, q, _, rfl, HPF.out, rfl, rfl, rfl⟩⟩
end Go.Proofs.Ytcdogciacchigab
