/- Walks of the law: laid. -/
import Derived.Test.YtbkbecjgphjpkaaDoorL1
namespace Go.Proofs.YtbkbecjgphjpkaaDoor
open Go.RowKit
set_option linter.unusedVariables false

/-- Frames, one behind the other. -/
def cat (l : List (List UInt8)) : List UInt8 := l.flatMap frameB
theorem cat_snoc (l : List (List UInt8)) (r : List UInt8) : cat (l ++ [r]) = cat l ++ frameB r := by simp [cat]
theorem cat_le {l m : List (List UInt8)} (h : List.Sublist l m) : (cat l).length ≤ (cat m).length := by
  induction h with
  | slnil => simp
  | cons a _ ih => simp only [cat, List.flatMap_cons, List.length_append] at ih ⊢; omega
  | cons_cons a _ ih => simp only [cat, List.flatMap_cons, List.length_append] at ih ⊢; omega
theorem cat_count (l : List (List UInt8)) : l.length * 13 ≤ (cat l).length := by
  induction l with
  | nil => simp
  | cons a r ih => simp only [cat, List.flatMap_cons, List.length_append, List.length_cons, frameB_len] at ih ⊢; omega
/-- Where each ends. -/
def endsOf (l : List (List UInt8)) : List Nat := (List.range l.length).map (fun j => (cat (l.take (j + 1))).length)
theorem endsOf_snoc (l : List (List UInt8)) (r : List UInt8) : endsOf (l ++ [r]) = endsOf l ++ [(cat (l ++ [r])).length] := by
  unfold endsOf
  rw [List.length_append, List.length_singleton, List.range_succ, List.map_append]
  congr 1
  · apply List.map_congr_left
    intro j hj
    rw [List.take_append_of_le_length (by have := List.mem_range.1 hj; omega)]
  · simp [List.take_of_length_le]
theorem endsOf_len (l : List (List UInt8)) : (endsOf l).length = l.length := by simp [endsOf]
theorem endsOf_at (l : List (List UInt8)) (j : Nat) (h : j < l.length) : (endsOf l)[j]? = some (cat (l.take (j + 1))).length := by simp [endsOf, h]
abbrev It := Value × List UInt8
def fit (t : It) : Bool := decide (t.2.length ≤ 262400)
def iv (n : Nat) : Value := .int .i64 n

theorem Own.flen {w : World} {e : TypeId} {v : Value} {xs : List Value} (h : Own w e v xs) : ∃ a cap, v = .slice a xs.length cap := by
  rcases h.shape with ⟨rfl, rfl⟩ | ⟨g, cap, cur, rfl, _⟩
  · exact ⟨none, 0, rfl⟩
  · exact ⟨_, _, rfl⟩
theorem Own.fn {w : World} {e : TypeId} {v : Value} {xs : List Value} (h : Own w e v xs) : ∃ a n cap, v = .slice a n cap ∧ Hid (n = xs.length) := by
  obtain ⟨a, cap, e⟩ := h.flen
  exact ⟨a, _, cap, e, rfl⟩
theorem own_ne {w : World} {e e' : TypeId} {v v' : Value} {xs xs' : List Value} (h : Own w e v xs) (h' : Own w e' v' xs') (he : e ≠ e') : ∀ g, v.ownBlock = some g → ¬ (v'.ownBlock = some g) := by
  intro g hg hg'
  rcases h.shape with ⟨rfl, _⟩ | ⟨g1, cap, cur, rfl, q, _⟩
  · cases hg
  · rcases h'.shape with ⟨rfl, _⟩ | ⟨g2, cap', cur', rfl, q', _⟩
    · cases hg'
    · cases hg
      cases hg'
      rw [q] at q'
      cases q'
      exact he rfl
/-- An append onto one of them leaves the other. -/
theorem Own.beside {w w1 w2 : World} {e e' : TypeId} {v v' u : Value} {xs ys : List Value} (h : Own w e u xs) (o : Own w e' v ys) (he : e ≠ e') (t : Turn no w w1) (g : Grew w1 w2 v v') : Own w2 e u xs :=
  (h.turn_no t).turn g.turn (fun k hk q => own_ne h o he k hk q)
theorem info3 : (Tryd.prog.info? 3).map (fun i => (i.zero, i.size, i.bytes)) = some (some (.int .i64 0), 1, 8) := by kernel_rfl

set_option maxRecDepth 100000 in
set_option maxHeartbeats 400000 in
theorem num12 (w : World) (e0 : Int) : Calls Tryd.prog 12 #[.int .i64 e0] w fun e w' => e = .returned (.int .i64 e0) ∧ w' = w := by
  go_enter Tryd.func12, Tryd.ntmps12
  go_wp2
  go_ret
  exact ⟨rfl, rfl⟩

/-- What laid makes. -/
structure Lo (w w' : World) (vb ve vl : Value) (g : List It) : Prop where
  b : Own w' 5 vb ((cat (g.map (·.2))).map bv)
  e : Own w' 3 ve ((endsOf (g.map (·.2))).map iv)
  l : Own w' 22 vl (g.map (·.1))
  fb : ∀ k, vb.ownBlock = some k → w.heap.size ≤ k
  fe : ∀ k, ve.ownBlock = some k → w.heap.size ≤ k
  fl : ∀ k, vl.ownBlock = some k → w.heap.size ≤ k
  t : Turn no w w'
theorem Lo.turn_no {w w1 w2 : World} {vb ve vl : Value} {g : List It} (h : Lo w w1 vb ve vl g) (t : Turn no w1 w2) : Lo w w2 vb ve vl g :=
  ⟨h.b.turn_no t, h.e.turn_no t, h.l.turn_no t, h.fb, h.fe, h.fl, h.t.then_no t⟩

set_option maxRecDepth 100000 in
set_option maxHeartbeats 2000000 in
theorem laid21 (w : World) (v : Value) (ts : List It) (h : Bl w v ts) (hL : LaidT w) (hle : (cat (ts.map (·.2))).length ≤ 1099511627776) :
    Calls Tryd.prog 21 #[v] w fun e w' => ∃ vb ve vl, e = .returned (.tuple #[vb, ve, vl]) ∧ Lo w w' vb ve vl (ts.filter fit) := by
  obtain ⟨aa, cp, rfl, hl, hm, hc⟩ := h
  obtain ⟨n, hn⟩ : ∃ n, ts.length = n := ⟨_, rfl⟩
  rw [hn] at hl ⊢
  go_enter Tryd.func21, Tryd.ntmps21
  go_wp2_with fail
  go_loopw [5, 6, 7, 8] (fun vb ve vl c wr => ∃ i : Nat, i ≤ n ∧ c = .int .i64 i ∧ Lo w wr vb ve vl ((ts.take i).filter fit)) (fun _ _ _ c _ => n - (intOf c).toNat)
  case atStart => exact ⟨0, Nat.zero_le _, rfl, ⟨Own.nil _ _, Own.nil _ _, Own.nil _ _, (fun k hk => by cases hk), (fun k hk => by cases hk), (fun k hk => by cases hk), Turn.refl _ _⟩⟩
  case round =>
    obtain ⟨i, hi, rfl, K⟩ := hrel
    obtain ⟨ba, bn, bc, rfl, hbn⟩ := K.b.fn
    obtain ⟨ea, en, ec, rfl, hen⟩ := K.e.fn
    obtain ⟨la, ln, lc, rfl, hln⟩ := K.l.fn
    by_cases hlt : i < n
    · have hlt' : (i : Int) < (n : Int) := by omega
      obtain ⟨t, ht⟩ : ∃ t, ts[i]? = some t := ⟨ts[i]'(by omega), List.getElem?_eq_getElem _⟩
      obtain ⟨g, o, rfl, d, hb⟩ := hc i t ht
      have e0 : ts.take (i + 1) = ts.take i ++ [t] := by
        rw [List.take_add_one, ht]
        rfl
      have hfilt : (ts.take (i + 1)).filter fit = (ts.take i).filter fit ++ [t].filter fit := by rw [e0, List.filter_append]
      have hcl : (cat (((ts.take (i + 1)).filter fit).map (·.2))).length ≤ 1099511627776 :=
        Nat.le_trans (cat_le (List.Sublist.map _ ((List.filter_sublist).trans (List.take_sublist _ _)))) hle
      have hgl : ((ts.take i).filter fit).length ≤ i := Nat.le_trans (List.length_filter_le _ _) (by simp; omega)
      obtain ⟨G, hG⟩ : ∃ G, (ts.take i).filter fit = G := ⟨_, rfl⟩
      rw [hG] at K hfilt hgl
      have hHB := hb.turn_no K.t
      have hLr := hL.turn_no K.t
      have dr := K.t.keep d (fun q => q)
      have d0 := Hid.mk' d
      obtain ⟨tv, tb⟩ := t
      simp only at hHB dr d0
      obtain ⟨xa, xc, rfl⟩ := hHB.slice
      clear d hb
      by_cases hfit : tb.length ≤ 262400
      · have hft : fit (.slice xa tb.length xc, tb) = true := by simp [fit, hfit]
        have hG2 : Hid ((ts.take (i + 1)).filter fit = G ++ [(.slice xa tb.length xc, tb)]) := by
          show (ts.take (i + 1)).filter fit = _
          rw [hfilt, List.filter_cons, if_pos hft]
          rfl
        rw [hG2.out, List.map_append, show List.map (·.2) [((.slice xa tb.length xc, tb) : It)] = [tb] from rfl] at hcl
        have hGc : G.length ≤ 1099511627776 := by
          have := cat_count (G.map (·.2) ++ [tb])
          simp only [List.length_append, List.length_map, List.length_singleton] at this
          omega
        have c1 := frame_good _ _ tb hHB hLr hfit
        go_wp2_with fail
        refine c1.mono ?_
        rintro e' w1 ⟨f, rfl, F1, f1, t1⟩
        obtain ⟨fa, fn, fc, rfl⟩ := F1.form
        have K1 := K.turn_no t1
        clear K c1 hHB hLr
        go_wp2_with fail
        refine (num12 _ _).mono ?_
        rintro e' w2 ⟨rfl, rfl⟩
        rw [hG] at hbn
        have hBle : (((cat (G.map (·.2))).map bv).length + (frameB tb).length) * 1 ≤ 140737488355328 := by
          rw [cat_snoc, List.length_append] at hcl
          rw [List.length_map]
          omega
        go_wp2_with (at_builtin; refine wpList_append_src rfl (.tmp 28) (.tmp 29) rfl Tryd.underlying22 Tryd.info5 rfl _ _ rfl K1.b _ (frameB tb).length ((frameB tb).map bv) rfl ?src ?b ?m ?_)
        case src => exact Bs.src Tryd.underlying22 F1.bs
        case b => exact hBle
        case m => unfold maxLen; omega
        intro v3 w3 O3 g3 _
        have O3 : Own w3 5 v3 ((cat (G.map (·.2) ++ [tb])).map bv) := by rw [cat_snoc, List.map_append]; exact O3
        have E3 := K1.e.beside K1.b (by decide) (Turn.refl no _) g3
        have L3 := K1.l.beside K1.b (by decide) (Turn.refl no _) g3
        have T3 := K1.t.fresh g3 K1.fb
        have fb3 := g3.fresh K1.fb K1.t.size
        obtain ⟨ca, cn, cc, rfl, hcn⟩ := O3.fn
        have TA := (Turn.refl no w3).alloc (.cells #[.int .i64 cn] 3)
        have hen' : ((endsOf (G.map (·.2))).map iv).length ≤ 1099511627776 := by rw [List.length_map, endsOf_len, List.length_map]; exact hGc
        have dr3 := T3.keep d0.out (fun q => q)
        have dr3a := TA.keep dr3 (fun q => q)
        clear g3
        go_wp2_with (at_builtin; refine wpList_append_src rfl (.tmp 31) (.tmp 34) rfl Tryd.underlying39 info3 rfl _ _ rfl (E3.turn_no TA) _ 1 [iv cn] rfl ?src ?b ?m ?_)
        case src => exact src_oneT Tryd.underlying39 w3 _ rfl
        case b => omega
        case m => unfold maxLen; omega
        intro v4 w4 O4 g4 _
        have O4 : Own w4 3 v4 ((endsOf (G.map (·.2) ++ [tb])).map iv) := by
          have hq := hcn.out
          rw [List.length_map] at hq
          rw [endsOf_snoc, List.map_append, ← hq]
          exact O4
        have B4 := O3.beside E3 (by decide) TA g4
        have L4 := L3.beside E3 (by decide) TA g4
        have T4 := (T3.then_no TA).fresh g4 K1.fe
        have fe4 := g4.fresh K1.fe (Nat.le_trans T3.size TA.size)
        obtain ⟨ja, jn, jc, rfl, hjn⟩ := O4.fn
        have dr4 := T4.keep d0.out (fun q => q)
        clear g4 dr3 dr3a TA
        have TA := (Turn.refl no w4).alloc (.cells #[.slice xa tb.length xc] 22)
        have hll : (G.map (·.1)).length ≤ 1099511627776 := by rw [List.length_map]; exact hGc
        go_wp2_with (at_builtin; refine wpList_append_src rfl (.tmp 36) (.tmp 41) rfl Tryd.underlying32 info22 rfl _ _ rfl (L4.turn_no TA) _ 1 [.slice xa tb.length xc] rfl ?src ?b ?m ?_)
        case src => exact src_oneT Tryd.underlying32 w4 _ rfl
        case b => omega
        case m => unfold maxLen; omega
        intro v5 w5 O5 g5 _
        have B5 := B4.beside L4 (by decide) TA g5
        have E5 := O4.beside L4 (by decide) TA g5
        have T5 := (T4.then_no TA).fresh g5 K1.fl
        have fl5 := g5.fresh K1.fl (Nat.le_trans T4.size TA.size)
        obtain ⟨ka, kn, kc, rfl⟩ := O5.form
        clear g5 TA
        go_wp2_with fail
        go_roundw
        case rel =>
          refine ⟨i + 1, by omega, by go_num, ?_⟩
          rw [hG2.out]
          refine ⟨?_, ?_, ?_, fb3, fe4, fl5, T5⟩
          · rw [List.map_append]; exact B5
          · rw [List.map_append]; exact E5
          · rw [List.map_append]; exact O5
        case measure => simp [intOf]; omega
      · have hft : fit (.slice xa tb.length xc, tb) = false := by simp [fit]; omega
        have hG2 : Hid ((ts.take (i + 1)).filter fit = G) := by
          show (ts.take (i + 1)).filter fit = _
          rw [hfilt, List.filter_cons, if_neg (by simp [hft])]
          simp
        have c1 := frame_big _ _ tb hHB (by omega)
        go_wp2_with fail
        refine c1.mono ?_
        rintro e' w1 ⟨rfl, rfl⟩
        go_wp2_with fail
        refine (num12 _ _).mono ?_
        rintro e' w2 ⟨rfl, rfl⟩
        go_wp2_with fail
        go_roundw
        case rel => exact ⟨i + 1, by omega, by go_num, by rw [hG2.out]; exact K⟩
        case measure => simp [intOf]; omega
    · have hlt' : ¬ (i : Int) < (n : Int) := by omega
      have hin : i = n := by omega
      subst hin
      rw [List.take_of_length_le (by omega)] at K
      go_wp2_with fail
      go_ret3
      exact ⟨_, _, _, rfl, K⟩
end Go.Proofs.YtbkbecjgphjpkaaDoor
