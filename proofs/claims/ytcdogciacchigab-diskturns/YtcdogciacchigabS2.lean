/- Crash. -/
import Derived.Test.YtcdogciacchigabS0
import Derived.Test.YtcdogciacchigabS1
import Derived.Test.YtcdogciacchigabN0
namespace Go.Proofs.Ytcdogciacchigab
open Go.RowKit Go.Maps
set_option linter.unusedVariables false

abbrev Fi := Nm × List UInt8
/-- The cells of an image's files. -/
def imC (l : List Fi) (vs : List Value) : List Value := (l.zip vs).flatMap (fun x => [strV x.1.1, x.2])
theorem imC_snoc (l : List Fi) (vs : List Value) (f : Fi) (u : Value) (h : vs.length = l.length) : imC (l ++ [f]) (vs ++ [u]) = imC l vs ++ [strV f.1, u] := by
  unfold imC
  rw [List.zip_append h.symm, List.flatMap_append]
  rfl
theorem imC_len (l : List Fi) (vs : List Value) (h : vs.length = l.length) : (imC l vs).length = l.length * 2 := by
  induction l generalizing vs with
  | nil => simp [imC]
  | cons f r ih =>
    cases vs with
    | nil => simp at h
    | cons u us =>
      have := ih us (by simpa using h)
      simp only [imC, List.zip_cons_cons, List.flatMap_cons, List.length_append, List.length_cons, List.length_nil] at this ⊢
      omega
theorem imC_at (l : List Fi) (vs : List Value) (h : vs.length = l.length) (j : Nat) (f : Fi) (u : Value) (hf : l[j]? = some f) (hu : vs[j]? = some u) : (imC l vs)[j * 2]? = some (strV f.1) ∧ (imC l vs)[j * 2 + 1]? = some u := by
  induction l generalizing vs j with
  | nil => simp at hf
  | cons g r ih =>
    cases vs with
    | nil => simp at h
    | cons x us =>
      cases j with
      | zero =>
        simp at hf hu
        subst hf hu
        simp [imC]
      | succ j =>
        have := ih us (by simpa using h) j (by simpa using hf) (by simpa using hu)
        have e : imC (g :: r) (x :: us) = strV g.1 :: x :: imC r us := by simp [imC]
        rw [e]
        have e1 : (j + 1) * 2 = (j * 2 + 1) + 1 := by omega
        have e2 : (j + 1) * 2 + 1 = ((j * 2 + 1) + 1) + 1 := by omega
        rw [e2, e1]
        simp only [List.getElem?_cons_succ]
        exact this
/-- An image's list of files, in memory of its own from B on. -/
def Im (B : Nat) (w : World) (v : Value) (l : List Fi) : Prop :=
  ∃ vs, vs.length = l.length ∧ OwnN w 66 2 v l.length (imC l vs) ∧ (∀ g, v.ownBlock = some g → B ≤ g) ∧ ∀ (j : Nat) (f : Fi) (u : Value), l[j]? = some f → vs[j]? = some u → Own w 5 u (f.2.map bv) ∧ ∀ g, u.ownBlock = some g → B ≤ g
theorem Im.nil (B : Nat) (w : World) : Im B w (.slice none 0 0) [] := ⟨[], rfl, OwnN.nil w 66 2, (fun g hg => by cases hg), fun j f u hf => by simp at hf⟩
theorem Im.turn {B : Nat} {S : Nat → Prop} {w w' : World} {v : Value} {l : List Fi} (h : Im B w v l) (t : Turn S w w') (hS : ∀ k, S k → k < B) : Im B w' v l := by
  obtain ⟨vs, h1, h2, h3, h4⟩ := h
  refine ⟨vs, h1, h2.turn t (fun g hg q => by have := h3 g hg; have := hS g q; omega), h3, fun j f u hf hu => ?_⟩
  obtain ⟨a, b⟩ := h4 j f u hf hu
  exact ⟨a.turn t (fun g hg q => by have := b g hg; have := hS g q; omega), b⟩
theorem Im.turn_no {B : Nat} {w w' : World} {v : Value} {l : List Fi} (h : Im B w v l) (t : Turn no w w') : Im B w' v l := h.turn t (fun _ q => q.elim)
theorem info41 : (Try.prog.info? 66).map (fun i => (i.zero, i.size, i.bytes)) = some (some (.agg #[.string ⟨#[]⟩, .slice none 0 0]), 2, 40) := by kernel_rfl

theorem OwnN.obj {w : World} {e : TypeId} {size : Nat} {v : Value} {n : Nat} {xs : List Value} (h : OwnN w e size v n xs) {g : Nat} (hg : v.ownBlock = some g) : ∃ cur, w.heap[g]? = some (.cells cur e (0, 0)) := by
  rcases h.2 with ⟨rfl, _⟩ | ⟨g', cap, cur, rfl, _, ho, _⟩
  · cases hg
  · cases hg
    exact ⟨cur, ho⟩
theorem Own.obj {w : World} {e : TypeId} {v : Value} {xs : List Value} (h : Own w e v xs) {g : Nat} (hg : v.ownBlock = some g) : ∃ cur, w.heap[g]? = some (.cells cur e (0, 0)) := OwnN.obj (size := 1) (n := xs.length) h hg
theorem tag_ne {w : World} {g : Nat} {c c' : Array Value} {e e' : TypeId} {f f' : Nat × Nat} (h : w.heap[g]? = some (.cells c e f)) (h' : w.heap[g]? = some (.cells c' e' f')) : e = e' := by
  rw [h] at h'
  simp at h'
  exact h'.2.1
/-- One file more. -/
theorem Im.push {B : Nat} {W : World} {iw : Value} {l : List Fi} (h : Im B W iw l) (hl : l.length < 65536) (nm : Nm) (u : Value) (bs : List UInt8) (hu : Own W 5 u (bs.map bv)) (hub : ∀ g, u.ownBlock = some g → B ≤ g) (hBW : B ≤ W.heap.size) (x : Value) (hx : Src Try.prog 2 22 x 1 [strV nm, u] W) :
    ∃ iw' w', (∀ ty, (Builtin.append_ #[22, 22] ty #[iw, x]).run Try.prog W = .ok iw' w') ∧ Im B w' iw' (l ++ [(nm, bs)]) ∧ Grew W w' iw iw' ∧ ∃ a n c, iw' = .slice a n c := by
  obtain ⟨vs, h1, h2, h3, h4⟩ := h
  obtain ⟨iw', w', hr, ho, hg⟩ := run_append_srcN (P := Try.prog) (t := 22) (tx := 22) Try.underlying22 info41 rfl (by omega) 22 W iw l.length (imC l vs) h2 x 1 [strV nm, u] hx (by omega) (by simp only [maxLen]; omega)
  have hT := hg.turn
  have hne : ∀ {y xs}, Own W 5 y xs → ∀ g, y.ownBlock = some g → iw.ownBlock ≠ some g := fun hy g hg' q => by
    obtain ⟨c1, e1⟩ := hy.obj hg'
    obtain ⟨c2, e2⟩ := h2.obj q
    exact absurd (tag_ne e1 e2) (by decide)
  refine ⟨iw', w', fun ty => hr, ⟨vs ++ [u], by simp [h1], ?_, fun g q => ?_, fun j f y hf hy => ?_⟩, hg, ?_⟩
  · rw [imC_snoc l vs (nm, bs) u h1]
    simpa using ho
  · rcases hg.blk with e | ⟨g', e, e1, _⟩
    · exact h3 g (by rw [← e]; exact q)
    · rw [e] at q; cases q; omega
  · by_cases hj : j < l.length
    · rw [List.getElem?_append_left hj] at hf
      rw [List.getElem?_append_left (by omega)] at hy
      obtain ⟨a, b⟩ := h4 j f y hf hy
      exact ⟨a.turn hT (fun g hg' q => hne a g hg' q), b⟩
    · have hj2 : j = l.length := by
        have := (List.getElem?_eq_some_iff.1 hf).1
        simp at this
        omega
      subst hj2
      rw [List.getElem?_append_right (Nat.le_refl _)] at hf
      rw [List.getElem?_append_right (by omega), h1] at hy
      simp at hf hy
      subst hf hy
      exact ⟨hu.turn hT (fun g hg' q => hne hu g hg' q), hub⟩
  · rcases ho.2 with ⟨e, _⟩ | ⟨g, cap, cur, e, _⟩
    · exact ⟨_, _, _, e⟩
    · exact ⟨_, _, _, e⟩
theorem Im.other {B : Nat} {w : World} {iw : Value} {l : List Fi} (h : Im B w iw l) {g : Nat} {cs : Array Value} (hr : Row w g cs 24) (k : Nat) (x : Value) : Im B (w.setCell ⟨g, k, none⟩ x) iw l := by
  obtain ⟨vs, h1, h2, h3, h4⟩ := h
  have t : Turn (fun q => q = g) w (w.setCell ⟨g, k, none⟩ x) := Turn.setCell (S := fun q => q = g) (Turn.refl _ w) (p := ⟨g, k, none⟩) (fun _ => rfl) _
  refine ⟨vs, h1, h2.turn t (fun g' hg' q => ?_), h3, fun j f u hf hu => ?_⟩
  · subst q
    obtain ⟨c, e⟩ := h2.obj hg'
    exact absurd (tag_ne hr e) (by decide)
  · obtain ⟨a, b⟩ := h4 j f u hf hu
    refine ⟨a.turn t (fun g' hg' q => ?_), b⟩
    subst q
    obtain ⟨c, e⟩ := a.obj hg'
    exact absurd (tag_ne hr e) (by decide)
theorem shut {p : Prop} (h : p) : Shut p := h
theorem Dp.close {w : World} {p : Nat} {K : Nat → Prop} {bf bt : Option Nat} {V : Nm → Value} {s : St} (h : Dp w p K bf bt V s) (hoff : s.off = true) : Dp ((w.setCell ⟨p, 7, none⟩ (.bool true)).setCell ⟨p, 2, none⟩ (.map none)) p K none bt V { s with out := true } := by
  have T1 : Turn (fun k => k = p) w ((w.setCell ⟨p, 7, none⟩ (.bool true)).setCell ⟨p, 2, none⟩ (.map none)) := Turn.setCell (S := fun k => k = p) (Turn.setCell (S := fun k => k = p) (Turn.refl _ w) (p := ⟨p, 7, none⟩) (fun _ => rfl) _) (p := ⟨p, 2, none⟩) (fun _ => rfl) _
  refine ⟨⟨h.inv.sorted, h.inv.names, h.inv.sy, h.inv.used, h.inv.lim, h.inv.count, h.inv.arms, fun q => by rw [hoff] at q; cases q⟩, (h.row.set 7 (.bool true)).set 2 (.map none), h.kp, fun k hk => Nat.lt_of_lt_of_le (h.klt k hk) T1.size, Or.inl ⟨rfl, rfl⟩, ?_, fun f hf => (h.bytes f hf).turn T1 (fun g hg q => ?_), h.owned, h.apart⟩
  · rcases h.troubles with q | ⟨q, _⟩
    · exact Or.inl q
    · rw [hoff] at q; cases q
  · subst q
    rcases (h.bytes f hf).shape with ⟨e, _⟩ | ⟨g', cap, cur, e, ho', _⟩
    · rw [e] at hg; cases hg
    · rw [e] at hg; cases hg
      have := h.row
      unfold Row at this
      rw [ho'] at this
      simp at this
theorem src_file (w : World) (nm : Nm) (u : Value) (hu : u.oneCell' = true) : Src Try.prog 2 22 (.slice (some ⟨w.heap.size, 0, none⟩) 1 1) 1 [strV nm, u] (w.alloc (.cells #[strV nm, u] 66)) :=
  Src.ofSlice _ Try.underlying22 _ _ _ _ rfl (fun j x hx => by
    have := (Row.new w #[strV nm, u] 66).cell j x (by simpa using hx)
    simpa [Addr.add_lit] using this) (fun x hx => by
    simp at hx
    rcases hx with rfl | rfl
    · rfl
    · exact hu)

/-- What a crash leaves. -/
def crashL (fs : List Pf) (keep : List Int) (junk : UInt8) : List Fi := fs.mapIdx (fun i f => (f.nm, leftB f.bs f.sy (keep.getD i 0) junk))
theorem crashL_len (fs : List Pf) (keep : List Int) (junk : UInt8) : (crashL fs keep junk).length = fs.length := by simp [crashL]
theorem crashL_at (fs : List Pf) (keep : List Int) (junk : UInt8) (i : Nat) (f : Pf) (h : fs[i]? = some f) : (crashL fs keep junk)[i]? = some (f.nm, leftB f.bs f.sy (keep.getD i 0) junk) := by
  simp [crashL, h]

section
variable {w : World} {p : Nat} {K : Nat → Prop} {bf bt : Option Nat} {V : Nm → Value} {s : St}
theorem Dp.len (h : Dp w p K bf bt V s) {f : Pf} (hf : f ∈ s.fs) : f.bs.length ≤ 1073741824 := by
  have h1 := lenF_le f.nm s.fs
  have h2 := h.inv.used
  have h3 := h.inv.lim
  have : lenF f.nm s.fs = f.bs.length := by simp [lenF, getF_of_mem h.inv.sorted hf]
  omega

set_option maxRecDepth 100000 in
set_option maxHeartbeats 2000000 in
theorem crash15_out (hk : Dk w p K s) (ho : s.out = true) (a : Option Addr) (n cap : Nat) (j : Int) : Calls Try.prog 27 #[ptr p, .slice a n cap, .int .u8 j] w fun e w' => e = .returned (.tuple #[.agg #[.slice none 0 0], .int .i64 63]) ∧ Turn no w w' := by
  obtain ⟨bf, bt, V, h⟩ := hk
  have T1 : Turn no w (w.alloc (.cells #[.slice none 0 0] 24)) := (Turn.refl no w).alloc _
  have h1 := h.turn T1 (fun _ _ q => q)
  have hm := h1.made
  have c7 := h1.c7
  rw [ho] at c7
  clear h h1
  unfold ptr at *
  go_enter Try.func27, Try.ntmps27
  go_wp2_with fail
  refine hm.mono ?_
  rintro e w' ⟨rfl, rfl⟩
  go_wp2_with fail
  refine ⟨rfl, _, results_cell_row_tmp (g := w.heap.size) (cs := #[.slice none 0 0]) (t := 24) rfl _ _ _ _ rfl (Row.new w #[.slice none 0 0] 24) Try.underlying24 rfl (by kernel_rfl), rfl, T1⟩

set_option maxRecDepth 100000 in
set_option maxHeartbeats 8000000 in
theorem crash15 (hk : Dk w p K s) (hout : s.out = false) (vk : Value) (keep : List Int) (hkeep : Vs w vk (keep.map iv)) (junk : UInt8) :
    Calls Try.prog 27 #[ptr p, vk, .int .u8 junk.toNat] w fun e w' => ∃ v, e = .returned (.tuple #[.agg #[v], .int .i64 0]) ∧ Im w.heap.size w' v (crashL s.fs keep junk) ∧ Dk w' p K { s with off := true, out := true } ∧ Turn K w w' := by
  obtain ⟨bf, bt, V, h⟩ := hk
  obtain ⟨ka, kc, hks⟩ := hkeep.slice
  have hkl := hkeep.le
  simp only [List.length_map] at hks hkl
  have hkl' : keep.length ≤ 9223372036854775807 := by simp only [maxLen] at hkl; omega
  -- the result, the image
  obtain ⟨B, hB⟩ : ∃ B, B = w.heap.size := ⟨_, rfl⟩
  have T1 : Turn no w (w.alloc (.cells #[.slice none 0 0] 24)) := (Turn.refl no w).alloc _
  have rR : Row (w.alloc (.cells #[.slice none 0 0] 24)) B #[.slice none 0 0] 24 := Row.newAt _ _ _ _ hB
  have hm := (h.turn T1 (fun _ _ q => q)).made
  have c7 := (h.turn T1 (fun _ _ q => q)).c7
  rw [hout] at c7
  have T2 : Turn no w ((w.alloc (.cells #[.slice none 0 0] 24)).alloc (.cells #[.slice none 0 0] 24)) := T1.alloc _
  have rR2 : Row ((w.alloc (.cells #[.slice none 0 0] 24)).alloc (.cells #[.slice none 0 0] 24)) B #[.slice none 0 0] 24 := rR.alloc _
  have rI : Row ((w.alloc (.cells #[.slice none 0 0] 24)).alloc (.cells #[.slice none 0 0] 24)) (B + 1) #[.slice none 0 0] 24 := Row.newAt _ _ _ _ (by simp [hB])
  have h2 := h.turn T2 (fun _ _ q => q)
  have hsn := sorted37 h2 hout
  have hpB : p < B := by rw [hB]; exact h.klt p h.kp
  have hsz : ((w.alloc (.cells #[.slice none 0 0] 24)).alloc (.cells #[.slice none 0 0] 24)).heap.size = B + 2 := by simp [hB]
  generalize hw2 : (w.alloc (.cells #[.slice none 0 0] 24)).alloc (.cells #[.slice none 0 0] 24) = w2 at *
  obtain ⟨b, D, rfl, kb, o, fm⟩ := h.on_files hout
  have hnl : s.fs.length ≤ 65536 := h.inv.count
  have HB : Hid (B = w.heap.size) := hB
  rw [show w.heap.size = B from hB.symm]
  have rw1 : w.heap.size = B := hB.symm
  clear hB
  subst hks
  unfold ptr at *
  have hKlt : ∀ k, K k → k < B := fun k hk => by have := h.klt k hk; have := HB.out; omega
  obtain ⟨KK, hKK⟩ : ∃ KK : Nat → Prop, KK = K := ⟨_, rfl⟩
  have hkp' : KK p := by rw [hKK]; exact h.kp
  subst hKK
  go_enter Try.func27, Try.ntmps27
  go_wp2_with fail
  refine hm.mono ?_
  rintro e w' ⟨rfl, rfl⟩
  go_wp2_with fail
  refine hsn.mono ?_
  rintro e w3 ⟨vn, rfl, hN, hNB, t3⟩
  obtain ⟨na, nc, hns⟩ : ∃ na nc, vn = .slice na s.fs.length nc := by
    rcases hN.shape with ⟨e, q⟩ | ⟨g, cap, cur, e, _⟩
    · have : s.fs = [] := by simpa using q
      exact ⟨none, 0, by rw [e, this]; rfl⟩
    · exact ⟨_, _, by simpa using e⟩
  have T3 := T2.then_no t3
  have rI3 := rI.turn t3 (fun q => q)
  have rR3 := rR2.turn t3 (fun q => q)
  have hB3 : B + 2 ≤ w3.heap.size := by have := t3.size; omega
  subst hns
  clear hm hsn c7 rI rR rR2 T1 T2 t3 hw2
  go_wp2_with fail
  go_loopw [24] (fun x wr => ∃ (i : Nat) (iv : Value), i ≤ s.fs.length ∧ x = .int .i64 i ∧ Row wr (B + 1) #[iv] 24 ∧ Im B wr iv ((crashL s.fs keep junk).take i) ∧ (∀ g, iv.ownBlock = some g → w3.heap.size ≤ g) ∧ Turn (fun k => k = B + 1) w3 wr) (fun x _ => s.fs.length - (intOf x).toNat)
  case atStart => exact ⟨0, .slice none 0 0, Nat.zero_le _, rfl, rI3, by rw [List.take_zero]; exact Im.nil B w3, (fun g q => by cases q), Turn.refl _ _⟩
  case round =>
    obtain ⟨i, iw, hi, rfl, RI, hIm, hnew, TI⟩ := hrel
    have T : Turn no w wr := T3.trans TI (fun k hk q => by have := HB.out; omega)
    have hsl : ∃ a n c, iw = .slice a n c := by
      obtain ⟨vs, _, h2, _⟩ := hIm
      rcases h2.2 with ⟨e, _⟩ | ⟨g, cap, cur, e, _⟩
      · exact ⟨_, _, _, e⟩
      · exact ⟨_, _, _, e⟩
    have hD := h.turn T (fun _ _ q => q)
    by_cases hlt : i < s.fs.length
    · have hlt' : (i : Int) < (s.fs.length : Int) := by omega
      obtain ⟨f, hf⟩ : ∃ f, s.fs[i]? = some f := ⟨s.fs[i], List.getElem?_eq_getElem hlt⟩
      have hfm : f ∈ s.fs := List.mem_of_getElem? hf
      have hget := getF_of_mem h.inv.sorted hfm
      have hfnm : f.nm.length ≤ maxLen := by have := isNm_len (h.inv.names f hfm); simp only [maxLen]; omega
      -- the name
      obtain ⟨ng, hng, hna⟩ : ∃ ng, na = some ⟨ng, 0, none⟩ ∧ wr.cell? ⟨ng, i, none⟩ = some (strV f.nm) := by
        have hN' : Own wr 9 (.slice na s.fs.length nc) ((s.fs.map Pf.nm).map strV) := hN.turn TI (fun g hg q => by have := hNB g hg; omega)
        rcases hN'.shape with ⟨e, q⟩ | ⟨g, cap, cur, e, _⟩
        · have : s.fs = [] := by simpa using q
          rw [this] at hlt; simp at hlt
        · have e' : na = some ⟨g, 0, none⟩ := by simp at e; exact e.1
          subst e'
          exact ⟨g, rfl, hN'.cell i _ (by simp [hf])⟩
      subst hng
      -- how many are asked for
      obtain ⟨KV, hKV⟩ : ∃ KV, KV = keep.getD i 0 := ⟨_, rfl⟩
      have hcl : (crashL s.fs keep junk).take (i + 1) = (crashL s.fs keep junk).take i ++ [(f.nm, leftB f.bs f.sy KV junk)] := by
        rw [List.take_add_one, crashL_at _ _ _ _ _ hf, hKV]; rfl
      have hleft := fun W (t : Turn no wr W) => left38 W (V f.nm) f.bs f.sy KV junk ((hD.bytes f hfm).turn_no t) (h.inv.sy f hfm) (h.len hfm)
      have hnp : ∀ k, k = B + 1 ∨ iw.ownBlock = some k → w.heap.size ≤ k := fun k hk => by
        have := HB.out
        rcases hk with q | q
        · omega
        · have := hnew k q; omega
      have hc2 : ∀ W, Turn (fun q => q = B + 1 ∨ iw.ownBlock = some q) wr W → W.cell? ⟨p, 2, none⟩ = some (.map (some b)) := fun W t => (hD.row.turn t (fun q => by have := hnp p q; have := h.klt p h.kp; omega)).cell 2 _ rfl
      have hl : ∀ W, Turn (fun q => q = B + 1 ∨ iw.ownBlock = some q) wr W → _ := fun W t => (files_look (ownsMap_turn (ownsMap_turn o T (fun q => q)) t (fun q => by have := hnp b q; have := o.lt; omega)) fm f.nm hfnm).2
      have est : stood V s.fs f.nm = fileV (V f.nm) f.sy := by simp [stood, hget]
      rw [est] at hl
      obtain ⟨fa, fn, fc, hfs⟩ := (h.bytes f hfm).slice
      rw [hfs] at hl hleft
      have hbox : ∀ W, Turn no wr W → W.cell? ⟨B + 1, 0, none⟩ = some iw := fun W t => (RI.turn t (fun q => q)).cell 0 _ rfl
      have hwrB : B + 2 ≤ wr.heap.size := by have := TI.size; omega
      have happ : ∀ w4 xa xn xc, Turn no wr w4 → Own w4 5 (.slice xa xn xc) ((leftB f.bs f.sy KV junk).map bv) → (∀ g, (Value.slice xa xn xc).ownBlock = some g → wr.heap.size ≤ g) → ∃ iw' w6, (∀ ty, (Builtin.append_ #[22, 22] ty #[iw, .slice (some ⟨w4.heap.size, 0, none⟩) 1 1]).run Try.prog (w4.alloc (.cells #[.string ⟨f.nm.toArray⟩, .slice xa xn xc] 66)) = .ok iw' w6) ∧ Im B w6 iw' ((crashL s.fs keep junk).take (i + 1)) ∧ (∀ g, iw'.ownBlock = some g → w3.heap.size ≤ g) ∧ Turn (fun k => k = B + 1) w3 w6 ∧ Turn (fun q => q = B + 1 ∨ iw.ownBlock = some q) wr w6 ∧ Row w6 (B + 1) #[iw] 24 ∧ ∃ a n c, iw' = .slice a n c := fun w4 xa xn xc t hO' hB' => by
        have ta := t.alloc (.cells #[strV f.nm, .slice xa xn xc] 66)
        have hln : ((crashL s.fs keep junk).take i).length < 65536 := by rw [List.length_take, crashL_len]; omega
        obtain ⟨iw', w6, hr, hI, hG, hs⟩ := (hIm.turn_no ta).push hln f.nm (.slice xa xn xc) _ (hO'.turn_no ((Turn.refl no w4).alloc _)) (fun g hg => by have := hB' g hg; omega) (by have := ta.size; omega) _ (src_file w4 f.nm (.slice xa xn xc) rfl)
        rw [← hcl] at hI
        refine ⟨iw', w6, hr, hI, fun g hg => ?_, ?_, (ta.of_no).trans hG.turn (fun k _ q => Or.inr q), (RI.turn ta (fun q => q)).turn hG.turn (fun q => by have := hnew _ q; omega), hs⟩
        · rcases hG.blk with e | ⟨g', e, e1, _⟩
          · exact hnew g (by rw [← e]; exact hg)
          · rw [e] at hg; cases hg
            have := ta.size; have := TI.size; omega
        · exact (TI.then_no ta).trans hG.turn (fun k hk q => by have := hnew k q; omega)
      have hstep : ∀ (iw' : Value) (w6 : World), Im B w6 iw' ((crashL s.fs keep junk).take (i + 1)) → (∀ g, iw'.ownBlock = some g → w3.heap.size ≤ g) → Turn (fun k => k = B + 1) w3 w6 → Row w6 (B + 1) #[iw] 24 →
          Row (w6.setCell ⟨B + 1, 0, none⟩ iw') (B + 1) #[iw'] 24 ∧ Im B (w6.setCell ⟨B + 1, 0, none⟩ iw') iw' ((crashL s.fs keep junk).take (i + 1)) ∧ (∀ g, iw'.ownBlock = some g → w3.heap.size ≤ g) ∧ Turn (fun k => k = B + 1) w3 (w6.setCell ⟨B + 1, 0, none⟩ iw') ∧ (Turn (fun q => q = B + 1 ∨ iw.ownBlock = some q) wr w6 → Turn (fun q => q = B + 1 ∨ iw.ownBlock = some q) wr (w6.setCell ⟨B + 1, 0, none⟩ iw')) := fun iw' w6 x1 x2 x3 x4 =>
        ⟨x4.set 0 iw', x1.other x4 0 iw', x2, Turn.setCell (S := fun k => k = B + 1) x3 (p := ⟨B + 1, 0, none⟩) (fun _ => rfl) _, fun t => Turn.setCell t (p := ⟨B + 1, 0, none⟩) (fun _ => Or.inl rfl) _⟩
      have hkcR : ∀ kb' ko, ka = some ⟨kb', ko, none⟩ → i < keep.length → wr.cell? ⟨kb', ko + i, none⟩ = some (.int .i64 KV) := fun kb' ko e hik => by
        obtain ⟨b2, o2, c2, e2, _, hcell⟩ := hkeep.at (by simp; omega)
        have e3 : ka = some ⟨b2, o2, none⟩ := by simp at e2; exact e2.1
        rw [e] at e3
        cases e3
        have := hcell i (iv KV) (by simp [hKV, List.getD_eq_getElem?_getD, hik])
        exact T.keep this (fun q => q)
      have cur0 : Turn no wr wr.drew := (Turn.refl no wr).drew
      have hnx : (i : Int) < 65536 := by omega
      have bx0 := hbox _ cur0
      have HKV := shut hKV
      clear hKV
      have HAPP := shut happ
      have HSTEP := shut hstep
      have HLEFT := shut hleft
      have HBOX := shut hbox
      clear hD hIm hN TI T fm o RI rI3 rR3 hget est hfs happ hstep hleft hbox hcl
      unfold strV fileV at *
      by_cases hik : i < keep.length
      · have hik' : (i : Int) < (keep.length : Int) := by omega
        obtain ⟨kb', ko, kcap, hkv, hkc, hkcell⟩ := hkeep.at (by simp; omega)
        simp only [List.length_map] at hkv
        have hka : ka = some ⟨kb', ko, none⟩ := by simp at hkv; exact hkv.1
        subst hka
        have hkc' := hkcR kb' ko rfl hik
        go_wp2_with fail
        refine wp_region_noPanic ?_
        refine wp_region_held_drew (S := fun W => Turn (fun q => q = B + 1 ∨ iw.ownBlock = some q) wr W) (by kernel_rfl) (Turn.refl _ wr).drew (fun hHeld => ?_)
        refine' wpAnyH_take (i := 0) (v := .pointer (some ⟨B + 1, 0, none⟩)) rfl (by kernel_rfl) (by kernel_rfl) (by kernel_rfl) (fun _ _ _ h => h) (Or.inl ⟨by kernel_rfl, fun W hW => ?y1⟩) hHeld ?r1
        · go_simp
        refine' wpAnyH_take (i := 2) (v := .string ⟨f.nm.toArray⟩) rfl (by kernel_rfl) (by kernel_rfl) (by kernel_rfl) (fun _ _ _ h => h) (Or.inl ⟨by kernel_rfl, fun W hW => ?y2⟩) hHeld ?r2
        · go_simp
        refine' wpAnyH_take (i := 3) (v := .pointer (some ⟨p, 0, none⟩)) rfl (by kernel_rfl) (by kernel_rfl) (by kernel_rfl) (fun _ _ _ h => h) (Or.inl ⟨by kernel_rfl, fun W hW => ?y3⟩) hHeld ?r3
        · go_simp
        refine' wpAnyH_take (i := 4) (v := .pointer (some ⟨p, 0, none⟩)) rfl (by kernel_rfl) (by kernel_rfl) (by kernel_rfl) (fun _ _ _ h => h) (Or.inl ⟨by kernel_rfl, fun W hW => ?y4⟩) hHeld ?r4
        · go_simp
        refine' wpAnyH_take (i := 5) (v := .pointer (some ⟨p, 2, none⟩)) rfl (by kernel_rfl) (by kernel_rfl) (by kernel_rfl) (fun _ _ _ h => h) (Or.inl ⟨by kernel_rfl, fun W hW => ?y5⟩) hHeld ?r5
        · go_simp
        refine' wpAnyH_take (i := 6) (v := .map (some b)) rfl (by kernel_rfl) (by kernel_rfl) (by kernel_rfl) (fun _ _ _ h => h) (Or.inl ⟨by kernel_rfl, fun W hW => ?y6⟩) hHeld ?r6
        · have c := hc2 _ hW
          go_simp
        refine' wpAnyH_take (i := 7) (v := .string ⟨f.nm.toArray⟩) rfl (by kernel_rfl) (by kernel_rfl) (by kernel_rfl) (fun _ _ _ h => h) (Or.inl ⟨by kernel_rfl, fun W hW => ?y7⟩) hHeld ?r7
        · go_simp
        refine' wpAnyH_take (i := 8) (v := .agg #[.slice fa fn fc, .int .i64 f.sy]) rfl (by kernel_rfl) (by kernel_rfl) (by kernel_rfl) (fun _ _ _ h => h) (Or.inl ⟨by kernel_rfl, fun W hW => ?y8⟩) hHeld ?r8
        · have c := hl _ hW
          go_simp
        refine' wpAnyH_take (i := 9) (v := .int .i64 KV) rfl (by kernel_rfl) (by kernel_rfl) (by kernel_rfl) (fun _ _ _ h => h) (Or.inl ⟨by kernel_rfl, fun W hW => ?y9⟩) hHeld ?r9
        · go_simp
        refine' wpAnyH_take (i := 10) (v := .int .u8 junk.toNat) rfl (by kernel_rfl) (by kernel_rfl) (by kernel_rfl) (fun _ _ _ h => h) (Or.inl ⟨by kernel_rfl, fun W hW => ?y10⟩) hHeld ?r10
        · go_simp
        refine wpAnyH_ready (rs := [1, 11]) (by kernel_rfl) (by simp) ?_
        refine AllReadyH.cons rfl (fun K hK => ?_) (AllReadyH.cons rfl (fun K hK => ?_) AllReadyH.nil)
        · go_simp
          refine hK.out _ _ hHeld (fun hHeld => ?_)
          clear hK
          refine wpAnyH_ready (rs := [11]) (by kernel_rfl) (by simp) ?_
          refine AllReadyH.cons rfl (fun K hK => ?_) AllReadyH.nil
          go_simp
          refine (HLEFT.out _ cur0).mono ?_
          rintro e w4 ⟨v', rfl, hO', hB', t4⟩
          obtain ⟨xa, xn, xc, rfl⟩ := hO'.slice
          have c4 := cur0.then_no t4
          have HO' := shut hO'
          have HB' := shut hB'
          have HC4 := shut c4
          clear hO' hB' t4
          go_wp2_with fail
          refine hK.out _ _ (c4.of_no) (fun hHeld => ?_)
          clear hK
          refine' wpAnyH_take (i := 12) (v := .agg #[.string ⟨f.nm.toArray⟩, .slice xa xn xc]) rfl (by kernel_rfl) (by kernel_rfl) (by kernel_rfl) (fun _ _ _ h => h) (Or.inl ⟨by kernel_rfl, fun W hW => ?y11⟩) hHeld ?r11
          · go_simp
          refine wpAnyH_ready (rs := [13]) (by kernel_rfl) (by simp) ?_
          refine AllReadyH.cons rfl (fun K hK => ?_) AllReadyH.nil
          go_simp
          refine hK.out _ _ ((c4.alloc _).of_no) (fun hHeld => ?_)
          clear hK
          obtain ⟨iw', w6, hap6, hIm6, hn6, T6, S6, RI6, hsl6⟩ := HAPP.out w4 xa xn xc HC4.out HO'.out HB'.out
          obtain ⟨ya, yn, yc, rfl⟩ := hsl6
          obtain ⟨sA, sB, sC, sD, sE⟩ := HSTEP.out _ _ hIm6 hn6 T6 RI6
          have bc := RI6.cell 0 _ rfl
          have bz := RI6.frozen 0
          refine wpAnyH_ready (rs := [14]) (by kernel_rfl) (by simp) ?_
          refine AllReadyH.cons rfl (fun K hK => ?_) AllReadyH.nil
          rw [if_pos (by rfl)]
          refine wp_append_run _ _ rfl _ _ rfl rfl (hap6 _) ?_
          refine hK.out _ _ S6 (fun hHeld => ?_)
          clear hK
          refine' wpAnyH_take (i := 15) (v := .pointer (some ⟨B + 1, 0, none⟩)) rfl (by kernel_rfl) (by kernel_rfl) (by kernel_rfl) (fun _ _ _ h => h) (Or.inl ⟨by kernel_rfl, fun W hW => ?y12⟩) hHeld ?r12
          · go_simp
          refine wpAnyH_ready (rs := [16]) (by kernel_rfl) (by simp) ?_
          refine AllReadyH.cons rfl (fun K hK => ?_) AllReadyH.nil
          go_simp
          refine hK.out _ _ (sE S6) (fun hHeld => ?_)
          clear hK
          refine wpAnyH_done (by kernel_rfl) ?_ _
          refine NoPanic.normal ?_
          go_wp2_with fail
          go_roundw
          case rel => exact ⟨i + 1, _, by omega, by go_num, sA, sB, sC, sD⟩
          case measure => simp [intOf]; omega
        · go_simp
          refine (HLEFT.out _ cur0).mono ?_
          rintro e w4 ⟨v', rfl, hO', hB', t4⟩
          obtain ⟨xa, xn, xc, rfl⟩ := hO'.slice
          have c4 := cur0.then_no t4
          have HO' := shut hO'
          have HB' := shut hB'
          have HC4 := shut c4
          clear hO' hB' t4
          go_wp2_with fail
          refine hK.out _ _ (c4.of_no) (fun hHeld => ?_)
          clear hK
          refine' wpAnyH_take (i := 12) (v := .agg #[.string ⟨f.nm.toArray⟩, .slice xa xn xc]) rfl (by kernel_rfl) (by kernel_rfl) (by kernel_rfl) (fun _ _ _ h => h) (Or.inl ⟨by kernel_rfl, fun W hW => ?y13⟩) hHeld ?r13
          · go_simp
          have bx := HBOX.out _ c4
          refine wpAnyH_ready (rs := [1, 13]) (by kernel_rfl) (by simp) ?_
          refine AllReadyH.cons rfl (fun K hK => ?_) (AllReadyH.cons rfl (fun K hK => ?_) AllReadyH.nil)
          · go_simp
            refine hK.out _ _ hHeld (fun hHeld => ?_)
            clear hK
            refine wpAnyH_ready (rs := [13]) (by kernel_rfl) (by simp) ?_
            refine AllReadyH.cons rfl (fun K hK => ?_) AllReadyH.nil
            go_simp
            refine hK.out _ _ ((c4.alloc _).of_no) (fun hHeld => ?_)
            clear hK
            obtain ⟨iw', w6, hap6, hIm6, hn6, T6, S6, RI6, hsl6⟩ := HAPP.out w4 xa xn xc HC4.out HO'.out HB'.out
            obtain ⟨ya, yn, yc, rfl⟩ := hsl6
            obtain ⟨sA, sB, sC, sD, sE⟩ := HSTEP.out _ _ hIm6 hn6 T6 RI6
            have bc := RI6.cell 0 _ rfl
            have bz := RI6.frozen 0
            refine wpAnyH_ready (rs := [14]) (by kernel_rfl) (by simp) ?_
            refine AllReadyH.cons rfl (fun K hK => ?_) AllReadyH.nil
            rw [if_pos (by rfl)]
            refine wp_append_run _ _ rfl _ _ rfl rfl (hap6 _) ?_
            refine hK.out _ _ S6 (fun hHeld => ?_)
            clear hK
            refine' wpAnyH_take (i := 15) (v := .pointer (some ⟨B + 1, 0, none⟩)) rfl (by kernel_rfl) (by kernel_rfl) (by kernel_rfl) (fun _ _ _ h => h) (Or.inl ⟨by kernel_rfl, fun W hW => ?y14⟩) hHeld ?r14
            · go_simp
            refine wpAnyH_ready (rs := [16]) (by kernel_rfl) (by simp) ?_
            refine AllReadyH.cons rfl (fun K hK => ?_) AllReadyH.nil
            go_simp
            refine hK.out _ _ (sE S6) (fun hHeld => ?_)
            clear hK
            refine wpAnyH_done (by kernel_rfl) ?_ _
            refine NoPanic.normal ?_
            go_wp2_with fail
            go_roundw
            case rel => exact ⟨i + 1, _, by omega, by go_num, sA, sB, sC, sD⟩
            case measure => simp [intOf]; omega

          · go_simp
            refine hK.out _ _ ((c4.alloc _).of_no) (fun hHeld => ?_)
            clear hK
            refine wpAnyH_ready (rs := [1]) (by kernel_rfl) (by simp) ?_
            refine AllReadyH.cons rfl (fun K hK => ?_) AllReadyH.nil
            have bx2 := HBOX.out _ (c4.alloc (.cells #[.string ⟨f.nm.toArray⟩, .slice xa xn xc] 66))
            go_simp
            refine hK.out _ _ hHeld (fun hHeld => ?_)
            clear hK
            obtain ⟨iw', w6, hap6, hIm6, hn6, T6, S6, RI6, hsl6⟩ := HAPP.out w4 xa xn xc HC4.out HO'.out HB'.out
            obtain ⟨ya, yn, yc, rfl⟩ := hsl6
            obtain ⟨sA, sB, sC, sD, sE⟩ := HSTEP.out _ _ hIm6 hn6 T6 RI6
            have bc := RI6.cell 0 _ rfl
            have bz := RI6.frozen 0
            refine wpAnyH_ready (rs := [14]) (by kernel_rfl) (by simp) ?_
            refine AllReadyH.cons rfl (fun K hK => ?_) AllReadyH.nil
            rw [if_pos (by rfl)]
            refine wp_append_run _ _ rfl _ _ rfl rfl (hap6 _) ?_
            refine hK.out _ _ S6 (fun hHeld => ?_)
            clear hK
            refine' wpAnyH_take (i := 15) (v := .pointer (some ⟨B + 1, 0, none⟩)) rfl (by kernel_rfl) (by kernel_rfl) (by kernel_rfl) (fun _ _ _ h => h) (Or.inl ⟨by kernel_rfl, fun W hW => ?y15⟩) hHeld ?r15
            · go_simp
            refine wpAnyH_ready (rs := [16]) (by kernel_rfl) (by simp) ?_
            refine AllReadyH.cons rfl (fun K hK => ?_) AllReadyH.nil
            go_simp
            refine hK.out _ _ (sE S6) (fun hHeld => ?_)
            clear hK
            refine wpAnyH_done (by kernel_rfl) ?_ _
            refine NoPanic.normal ?_
            go_wp2_with fail
            go_roundw
            case rel => exact ⟨i + 1, _, by omega, by go_num, sA, sB, sC, sD⟩
            case measure => simp [intOf]; omega


      · clear hkcR
        have hik' : ¬ (i : Int) < (keep.length : Int) := by omega
        have hK0 : KV = 0 := by rw [HKV.out]; simp [List.getD_eq_getElem?_getD, List.getElem?_eq_none (show keep.length ≤ i by omega)]
        subst hK0
        go_wp2_with fail
        refine wp_region_noPanic ?_
        refine wp_region_held_drew (S := fun W => Turn (fun q => q = B + 1 ∨ iw.ownBlock = some q) wr W) (by kernel_rfl) (Turn.refl _ wr).drew (fun hHeld => ?_)
        refine' wpAnyH_take (i := 0) (v := .pointer (some ⟨B + 1, 0, none⟩)) rfl (by kernel_rfl) (by kernel_rfl) (by kernel_rfl) (fun _ _ _ h => h) (Or.inl ⟨by kernel_rfl, fun W hW => ?y16⟩) hHeld ?r16
        · go_simp
        refine' wpAnyH_take (i := 2) (v := .string ⟨f.nm.toArray⟩) rfl (by kernel_rfl) (by kernel_rfl) (by kernel_rfl) (fun _ _ _ h => h) (Or.inl ⟨by kernel_rfl, fun W hW => ?y17⟩) hHeld ?r17
        · go_simp
        refine' wpAnyH_take (i := 3) (v := .pointer (some ⟨p, 0, none⟩)) rfl (by kernel_rfl) (by kernel_rfl) (by kernel_rfl) (fun _ _ _ h => h) (Or.inl ⟨by kernel_rfl, fun W hW => ?y18⟩) hHeld ?r18
        · go_simp
        refine' wpAnyH_take (i := 4) (v := .pointer (some ⟨p, 0, none⟩)) rfl (by kernel_rfl) (by kernel_rfl) (by kernel_rfl) (fun _ _ _ h => h) (Or.inl ⟨by kernel_rfl, fun W hW => ?y19⟩) hHeld ?r19
        · go_simp
        refine' wpAnyH_take (i := 5) (v := .pointer (some ⟨p, 2, none⟩)) rfl (by kernel_rfl) (by kernel_rfl) (by kernel_rfl) (fun _ _ _ h => h) (Or.inl ⟨by kernel_rfl, fun W hW => ?y20⟩) hHeld ?r20
        · go_simp
        refine' wpAnyH_take (i := 6) (v := .map (some b)) rfl (by kernel_rfl) (by kernel_rfl) (by kernel_rfl) (fun _ _ _ h => h) (Or.inl ⟨by kernel_rfl, fun W hW => ?y21⟩) hHeld ?r21
        · have c := hc2 _ hW
          go_simp
        refine' wpAnyH_take (i := 7) (v := .string ⟨f.nm.toArray⟩) rfl (by kernel_rfl) (by kernel_rfl) (by kernel_rfl) (fun _ _ _ h => h) (Or.inl ⟨by kernel_rfl, fun W hW => ?y22⟩) hHeld ?r22
        · go_simp
        refine' wpAnyH_take (i := 8) (v := .agg #[.slice fa fn fc, .int .i64 f.sy]) rfl (by kernel_rfl) (by kernel_rfl) (by kernel_rfl) (fun _ _ _ h => h) (Or.inl ⟨by kernel_rfl, fun W hW => ?y23⟩) hHeld ?r23
        · have c := hl _ hW
          go_simp
        refine' wpAnyH_take (i := 9) (v := .int .i64 0) rfl (by kernel_rfl) (by kernel_rfl) (by kernel_rfl) (fun _ _ _ h => h) (Or.inl ⟨by kernel_rfl, fun W hW => ?y24⟩) hHeld ?r24
        · go_simp
        refine' wpAnyH_take (i := 10) (v := .int .u8 junk.toNat) rfl (by kernel_rfl) (by kernel_rfl) (by kernel_rfl) (fun _ _ _ h => h) (Or.inl ⟨by kernel_rfl, fun W hW => ?y25⟩) hHeld ?r25
        · go_simp
        refine wpAnyH_ready (rs := [1, 11]) (by kernel_rfl) (by simp) ?_
        refine AllReadyH.cons rfl (fun K hK => ?_) (AllReadyH.cons rfl (fun K hK => ?_) AllReadyH.nil)
        · go_simp
          refine hK.out _ _ hHeld (fun hHeld => ?_)
          clear hK
          refine wpAnyH_ready (rs := [11]) (by kernel_rfl) (by simp) ?_
          refine AllReadyH.cons rfl (fun K hK => ?_) AllReadyH.nil
          go_simp
          refine (HLEFT.out _ cur0).mono ?_
          rintro e w4 ⟨v', rfl, hO', hB', t4⟩
          obtain ⟨xa, xn, xc, rfl⟩ := hO'.slice
          have c4 := cur0.then_no t4
          have HO' := shut hO'
          have HB' := shut hB'
          have HC4 := shut c4
          clear hO' hB' t4
          go_wp2_with fail
          refine hK.out _ _ (c4.of_no) (fun hHeld => ?_)
          clear hK
          refine' wpAnyH_take (i := 12) (v := .agg #[.string ⟨f.nm.toArray⟩, .slice xa xn xc]) rfl (by kernel_rfl) (by kernel_rfl) (by kernel_rfl) (fun _ _ _ h => h) (Or.inl ⟨by kernel_rfl, fun W hW => ?y26⟩) hHeld ?r26
          · go_simp
          refine wpAnyH_ready (rs := [13]) (by kernel_rfl) (by simp) ?_
          refine AllReadyH.cons rfl (fun K hK => ?_) AllReadyH.nil
          go_simp
          refine hK.out _ _ ((c4.alloc _).of_no) (fun hHeld => ?_)
          clear hK
          obtain ⟨iw', w6, hap6, hIm6, hn6, T6, S6, RI6, hsl6⟩ := HAPP.out w4 xa xn xc HC4.out HO'.out HB'.out
          obtain ⟨ya, yn, yc, rfl⟩ := hsl6
          obtain ⟨sA, sB, sC, sD, sE⟩ := HSTEP.out _ _ hIm6 hn6 T6 RI6
          have bc := RI6.cell 0 _ rfl
          have bz := RI6.frozen 0
          refine wpAnyH_ready (rs := [14]) (by kernel_rfl) (by simp) ?_
          refine AllReadyH.cons rfl (fun K hK => ?_) AllReadyH.nil
          rw [if_pos (by rfl)]
          refine wp_append_run _ _ rfl _ _ rfl rfl (hap6 _) ?_
          refine hK.out _ _ S6 (fun hHeld => ?_)
          clear hK
          refine' wpAnyH_take (i := 15) (v := .pointer (some ⟨B + 1, 0, none⟩)) rfl (by kernel_rfl) (by kernel_rfl) (by kernel_rfl) (fun _ _ _ h => h) (Or.inl ⟨by kernel_rfl, fun W hW => ?y27⟩) hHeld ?r27
          · go_simp
          refine wpAnyH_ready (rs := [16]) (by kernel_rfl) (by simp) ?_
          refine AllReadyH.cons rfl (fun K hK => ?_) AllReadyH.nil
          go_simp
          refine hK.out _ _ (sE S6) (fun hHeld => ?_)
          clear hK
          refine wpAnyH_done (by kernel_rfl) ?_ _
          refine NoPanic.normal ?_
          go_wp2_with fail
          go_roundw
          case rel => exact ⟨i + 1, _, by omega, by go_num, sA, sB, sC, sD⟩
          case measure => simp [intOf]; omega
        · go_simp
          refine (HLEFT.out _ cur0).mono ?_
          rintro e w4 ⟨v', rfl, hO', hB', t4⟩
          obtain ⟨xa, xn, xc, rfl⟩ := hO'.slice
          have c4 := cur0.then_no t4
          have HO' := shut hO'
          have HB' := shut hB'
          have HC4 := shut c4
          clear hO' hB' t4
          go_wp2_with fail
          refine hK.out _ _ (c4.of_no) (fun hHeld => ?_)
          clear hK
          refine' wpAnyH_take (i := 12) (v := .agg #[.string ⟨f.nm.toArray⟩, .slice xa xn xc]) rfl (by kernel_rfl) (by kernel_rfl) (by kernel_rfl) (fun _ _ _ h => h) (Or.inl ⟨by kernel_rfl, fun W hW => ?y28⟩) hHeld ?r28
          · go_simp
          have bx := HBOX.out _ c4
          refine wpAnyH_ready (rs := [1, 13]) (by kernel_rfl) (by simp) ?_
          refine AllReadyH.cons rfl (fun K hK => ?_) (AllReadyH.cons rfl (fun K hK => ?_) AllReadyH.nil)
          · go_simp
            refine hK.out _ _ hHeld (fun hHeld => ?_)
            clear hK
            refine wpAnyH_ready (rs := [13]) (by kernel_rfl) (by simp) ?_
            refine AllReadyH.cons rfl (fun K hK => ?_) AllReadyH.nil
            go_simp
            refine hK.out _ _ ((c4.alloc _).of_no) (fun hHeld => ?_)
            clear hK
            obtain ⟨iw', w6, hap6, hIm6, hn6, T6, S6, RI6, hsl6⟩ := HAPP.out w4 xa xn xc HC4.out HO'.out HB'.out
            obtain ⟨ya, yn, yc, rfl⟩ := hsl6
            obtain ⟨sA, sB, sC, sD, sE⟩ := HSTEP.out _ _ hIm6 hn6 T6 RI6
            have bc := RI6.cell 0 _ rfl
            have bz := RI6.frozen 0
            refine wpAnyH_ready (rs := [14]) (by kernel_rfl) (by simp) ?_
            refine AllReadyH.cons rfl (fun K hK => ?_) AllReadyH.nil
            rw [if_pos (by rfl)]
            refine wp_append_run _ _ rfl _ _ rfl rfl (hap6 _) ?_
            refine hK.out _ _ S6 (fun hHeld => ?_)
            clear hK
            refine' wpAnyH_take (i := 15) (v := .pointer (some ⟨B + 1, 0, none⟩)) rfl (by kernel_rfl) (by kernel_rfl) (by kernel_rfl) (fun _ _ _ h => h) (Or.inl ⟨by kernel_rfl, fun W hW => ?y29⟩) hHeld ?r29
            · go_simp
            refine wpAnyH_ready (rs := [16]) (by kernel_rfl) (by simp) ?_
            refine AllReadyH.cons rfl (fun K hK => ?_) AllReadyH.nil
            go_simp
            refine hK.out _ _ (sE S6) (fun hHeld => ?_)
            clear hK
            refine wpAnyH_done (by kernel_rfl) ?_ _
            refine NoPanic.normal ?_
            go_wp2_with fail
            go_roundw
            case rel => exact ⟨i + 1, _, by omega, by go_num, sA, sB, sC, sD⟩
            case measure => simp [intOf]; omega

          · go_simp
            refine hK.out _ _ ((c4.alloc _).of_no) (fun hHeld => ?_)
            clear hK
            refine wpAnyH_ready (rs := [1]) (by kernel_rfl) (by simp) ?_
            refine AllReadyH.cons rfl (fun K hK => ?_) AllReadyH.nil
            have bx2 := HBOX.out _ (c4.alloc (.cells #[.string ⟨f.nm.toArray⟩, .slice xa xn xc] 66))
            go_simp
            refine hK.out _ _ hHeld (fun hHeld => ?_)
            clear hK
            obtain ⟨iw', w6, hap6, hIm6, hn6, T6, S6, RI6, hsl6⟩ := HAPP.out w4 xa xn xc HC4.out HO'.out HB'.out
            obtain ⟨ya, yn, yc, rfl⟩ := hsl6
            obtain ⟨sA, sB, sC, sD, sE⟩ := HSTEP.out _ _ hIm6 hn6 T6 RI6
            have bc := RI6.cell 0 _ rfl
            have bz := RI6.frozen 0
            refine wpAnyH_ready (rs := [14]) (by kernel_rfl) (by simp) ?_
            refine AllReadyH.cons rfl (fun K hK => ?_) AllReadyH.nil
            rw [if_pos (by rfl)]
            refine wp_append_run _ _ rfl _ _ rfl rfl (hap6 _) ?_
            refine hK.out _ _ S6 (fun hHeld => ?_)
            clear hK
            refine' wpAnyH_take (i := 15) (v := .pointer (some ⟨B + 1, 0, none⟩)) rfl (by kernel_rfl) (by kernel_rfl) (by kernel_rfl) (fun _ _ _ h => h) (Or.inl ⟨by kernel_rfl, fun W hW => ?y30⟩) hHeld ?r30
            · go_simp
            refine wpAnyH_ready (rs := [16]) (by kernel_rfl) (by simp) ?_
            refine AllReadyH.cons rfl (fun K hK => ?_) AllReadyH.nil
            go_simp
            refine hK.out _ _ (sE S6) (fun hHeld => ?_)
            clear hK
            refine wpAnyH_done (by kernel_rfl) ?_ _
            refine NoPanic.normal ?_
            go_wp2_with fail
            go_roundw
            case rel => exact ⟨i + 1, _, by omega, by go_num, sA, sB, sC, sD⟩
            case measure => simp [intOf]; omega



    · have hi2 : i = s.fs.length := by omega
      subst hi2
      have hlt' : ¬ (s.fs.length : Int) < (s.fs.length : Int) := by omega
      rw [List.take_of_length_le (by rw [crashL_len]; exact Nat.le_refl _)] at hIm
      have hlp := losePower39 hD
      have RR := rR3.turn TI (fun q => by omega)
      have hkp := h.kp
      obtain ⟨ia, in', ic, rfl⟩ := hsl
      clear h fm o hN TI hD rI3 rR3 hnew T3 hkeep
      unfold ptr at hlp
      go_wp2_with fail
      refine hlp.mono ?_
      rintro e w4 ⟨rfl, hD4, T4⟩
      have R4 := hD4.row
      have c7 := R4.cell 7 _ rfl
      have f7 := R4.frozen 7
      have R5 := R4.set 7 (.bool true)
      have c2 := R5.cell 2 _ rfl
      have f2 := R5.frozen 2
      have hcl := hD4.close rfl
      have T5 : Turn (fun k => k = p) wr ((w4.setCell ⟨p, 7, none⟩ (.bool true)).setCell ⟨p, 2, none⟩ (.map none)) := Turn.setCell (S := fun k => k = p) (Turn.setCell (S := fun k => k = p) T4 (p := ⟨p, 7, none⟩) (fun _ => rfl) _) (p := ⟨p, 2, none⟩) (fun _ => rfl) _
      have RI5 := RI.turn T5 (fun q => by omega)
      have RR5 := RR.turn T5 (fun q => by omega)
      have hIm5 := hIm.turn T5 (fun k q => by omega)
      have b1 := RI5.cell 0 _ rfl
      have b2 := RR5.cell 0 _ rfl
      have b3 := RR5.frozen 0
      have hIm6 := hIm5.other RR5 0 (.slice ia in' ic)
      have RR6 := RR5.set 0 (.slice ia in' ic)
      have T6 : Turn (fun k => k = B) ((w4.setCell ⟨p, 7, none⟩ (.bool true)).setCell ⟨p, 2, none⟩ (.map none)) (((w4.setCell ⟨p, 7, none⟩ (.bool true)).setCell ⟨p, 2, none⟩ (.map none)).setCell ⟨B, 0, none⟩ (.slice ia in' ic)) := Turn.setCell (S := fun k => k = B) (Turn.refl _ _) (p := ⟨B, 0, none⟩) (fun _ => rfl) _
      have hcl6 := hcl.turn T6 (fun k hk q => by have := hD4.klt k hk; have := hKlt k hk; omega)
      have TF : Turn _ w (((w4.setCell ⟨p, 7, none⟩ (.bool true)).setCell ⟨p, 2, none⟩ (.map none)).setCell ⟨B, 0, none⟩ (.slice ia in' ic)) := ((T.of_no (S := KK)).trans T5 (fun k _ q => by rw [q]; exact hkp')).trans T6 (fun k hk q => by have := HB.out; omega)
      have HIM := shut hIm6
      have HCL := shut hcl6
      have HRR := shut RR6
      have HTF := shut TF
      clear hIm hIm5 hIm6 hcl hcl6 RR6 TF T6 T5 T4 RI RR RI5 RR5 hD4 R4 R5
      generalize hw6 : (w4.setCell ⟨p, 7, none⟩ (.bool true)).setCell ⟨p, 2, none⟩ (.map none) = w6 at *
      go_wp2_with fail
      refine ⟨rfl, _, results_cell_row_tmp (g := B) (cs := #[.slice ia in' ic]) (t := 24) rfl _ _ _ _ rfl HRR.out Try.underlying24 rfl (by kernel_rfl), _, rfl, HIM.out, ⟨_, _, _, HCL.out⟩, HTF.out⟩
end
end Go.Proofs.Ytcdogciacchigab
