/- Walks of the law: lent, kept, turn. -/
import Derived.Test.YtbkbecjgphjpkaaDoorR2
namespace Go.Proofs.YtbkbecjgphjpkaaDoor
open Go.RowKit
set_option linter.unusedVariables false

/-- What 'lent' hands out: a row of its own with two marks behind. -/
def Lent (w : World) (v : Value) (bs : List UInt8) : Prop :=
  ∃ g cap cur, v = .slice (some ⟨g, 0, none⟩) bs.length cap ∧ w.heap[g]? = some (.cells cur 5 (0, 0)) ∧ bs.length + 2 ≤ cap ∧ cap ≤ maxLen ∧ cur.size = cap ∧ cur.toList.take (bs.length + 2) = (bs ++ [171, 172]).map bv

set_option maxRecDepth 100000 in
set_option maxHeartbeats 1000000 in
theorem lent9 (w : World) (v : Value) (bs : List UInt8) (hb : Bs w v bs) (hle : bs.length + 2 ≤ 140737488355328) :
    Calls Tryd.prog 9 #[v] w fun e w' => ∃ v' g, e = .returned v' ∧ Lent w' v' bs ∧ v'.ownBlock = some g ∧ w.heap.size ≤ g ∧ Turn no w w' := by
  obtain ⟨a, c, rfl⟩ := hb.slice
  have hm : maxLen = 9223372036854775807 := by unfold maxLen; omega
  go_enter Tryd.func9, Tryd.ntmps9
  go_wp2_with (at_builtin; refine wpList_append_src rfl (.tmp 4) (.tmp 5) rfl Tryd.underlying22 Tryd.info5 rfl _ [] rfl (own_empty _ _) _ bs.length (bs.map bv) rfl ?src ?b ?m ?_)
  case src => exact Bs.src Tryd.underlying22 (hb.turn_no ((Turn.refl _ _).alloc _))
  case b => simp; omega
  case m => simp [hm]; omega
  intro v1 w1 hown1 hgrew1 _
  have hown1 : Own w1 5 v1 (bs.map bv) := hown1
  have hf0 : ∀ g, (Value.slice (some ⟨w.heap.size, 0, none⟩) 0 0).ownBlock = some g → w.heap.size ≤ g := fun g q => by cases q; exact Nat.le_refl _
  have hT1 : Turn no w w1 := ((Turn.refl _ _).alloc _).fresh hgrew1 hf0
  have hf1 := hgrew1.fresh hf0 (by simp)
  clear hgrew1 hf0
  go_wp2_with (at_builtin; refine wpList_append_src rfl (.tmp 7) (.tmp 8) rfl Tryd.underlying22 Tryd.info5 rfl _ (bs.map bv) rfl (hown1.turn_no ((Turn.refl _ _).alloc _)) _ 2 (List.map bv [171, 172]) rfl ?src ?b ?m ?_)
  case src => exact src_lit Tryd.underlying22 w1 [171, 172]
  case b => simp; omega
  case m => simp [hm]; omega
  intro v2 w2 hown2 hgrew2 hne2
  have hown2 : Own w2 5 v2 ((bs ++ [171, 172]).map bv) := by simpa using hown2
  have hT2 : Turn no w w2 := (hT1.alloc _).fresh hgrew2 hf1
  have hf2 := hgrew2.fresh hf1 (by have := hT1.size; simp; omega)
  clear hgrew2 hf1 hne2 hown1
  rcases hown2.shape with ⟨rfl, q⟩ | ⟨g, cap, cur, rfl, hg, h1, h2, h3, h4⟩
  · simp at q
  · clear hown2
    have hg2 := hf2 g rfl
    have e1 : ((bs ++ [171, 172]).map bv).length = bs.length + 2 := by simp
    rw [e1] at h1 h4 ⊢
    have hx : (bs.length : Int) ≤ (cap : Int) := by omega
    go_wp2_with fail
    all_goals (go_ret; exact ⟨_, g, rfl, ⟨g, cap, cur, rfl, hg, h1, h2, h3, h4⟩, rfl, hg2, hT2⟩)

theorem Lent.bs {w : World} {v : Value} {bs : List UInt8} (h : Lent w v bs) : Bs w v bs := by
  obtain ⟨g, cap, cur, rfl, hg, h1, h2, h3, h4⟩ := h
  refine Or.inr ⟨⟨g, 0, none⟩, cap, rfl, by omega, h2, fun j u hu => ?_⟩
  rw [Addr.add_lit, cell_of_row w g (0 + j) cur 5 (0, 0) hg, Nat.zero_add]
  have hj : j < bs.length := (List.getElem?_eq_some_iff.1 hu).1
  have : (cur.toList.take (bs.length + 2))[j]? = some (bv u) := by
    rw [h4, List.getElem?_map, List.getElem?_append_left hj, hu]; rfl
  rw [List.getElem?_take, if_pos (by omega)] at this
  simpa using this
theorem Lent.turn_no {w w' : World} {v : Value} {bs : List UInt8} (h : Lent w v bs) (t : Turn no w w') : Lent w' v bs := by
  obtain ⟨g, cap, cur, rfl, hg, r⟩ := h
  exact ⟨g, cap, cur, rfl, t.obj hg (fun q => q), r⟩
theorem Lent.mark {w : World} {g : Nat} {cur : Array Value} {bs : List UInt8} (hg : w.heap[g]? = some (.cells cur 5 (0, 0))) (h4 : cur.toList.take (bs.length + 2) = (bs ++ [171, 172]).map bv) (j : Nat) (hj : j < 2) : w.cell? ⟨g, bs.length + j, none⟩ = some (bv ([171, 172].getD j 0)) := by
  rw [cell_of_row w g _ cur 5 (0, 0) hg]
  have : (cur.toList.take (bs.length + 2))[bs.length + j]? = some (bv ([171, 172].getD j 0)) := by
    rw [h4, List.getElem?_map, List.getElem?_append_right (by omega)]
    have : bs.length + j - bs.length = j := by omega
    rw [this]
    match j, hj with
    | 0, _ => rfl
    | 1, _ => rfl
  rw [List.getElem?_take, if_pos (by omega)] at this
  simpa using this

set_option maxRecDepth 100000 in
set_option maxHeartbeats 1000000 in
theorem kept14 (w : World) (vl vb : Value) (bs : List UInt8) (g : Nat) (hlent : Lent w vl bs) (hown : vl.ownBlock = some g) (hb : Bs w vb bs) (hle : bs.length + 2 ≤ 140737488355328) :
    Calls Tryd.prog 14 #[vl, vb] w fun e w' => e = .returned (.bool true) ∧ Turn (fun k => k = g) w w' ∧ ∃ cap cur, vl = .slice (some ⟨g, 0, none⟩) bs.length cap ∧ w'.heap[g]? = some (.cells cur 5 (0, 0)) ∧ cur.size = cap ∧ bs.length + 2 ≤ cap ∧ cap ≤ maxLen := by
  have hbs := hlent.bs
  obtain ⟨a, c, rfl⟩ := hb.slice
  obtain ⟨g', cap, cur, rfl, hg, h1, h2, h3, h4⟩ := hlent
  obtain rfl : g' = g := Option.some.inj hown
  have m0 := Lent.mark hg h4 0 (by omega)
  have m1 := Lent.mark hg h4 1 (by omega)
  have q0 : bv ([171, 172].getD 0 0) = .int .u8 171 := rfl
  have q1 : bv ([171, 172].getD 1 0) = .int .u8 172 := rfl
  rw [q0, Nat.add_zero] at m0
  rw [q1] at m1
  clear q0 q1
  have hall : AllU8 cur (bs.length + 2) := allU8_of h4 (by omega)
  clear h4
  have H2 := Hid.mk' h2
  unfold maxLen at h2
  have c1 := same_any w _ _ bs bs hbs hb
  rw [beq_self_eq_true] at c1
  obtain ⟨N, hN⟩ : ∃ N, bs.length = N := ⟨_, rfl⟩
  rw [hN] at h1 m0 m1 hall hle c1 ⊢
  obtain ⟨M, hM⟩ : ∃ M, N + 2 = M := ⟨_, rfl⟩
  have e1 : (N : Int) + 2 = (M : Int) := by omega
  have e2 : (M : Int) ≤ (cap : Int) := by omega
  have e3 : (M : Int) ≤ 140737488355328 := by omega
  have e4 : (N : Int) < (M : Int) := by omega
  have e5 : (N : Int) + 1 < (M : Int) := by omega
  rw [hM] at hall
  clear hbs hb hN
  go_enter Tryd.func14, Tryd.ntmps14
  go_wp2_with fail
  refine c1.mono ?_
  rintro e w1 ⟨rfl, n, rfl⟩
  have T1 := (Turn.refl (fun k => k = g') w).drewN n
  have hg1 : (w.drewN n).heap[g']? = some (.cells cur 5 (0, 0)) := hg
  have m0' : (w.drewN n).cell? ⟨g', N, none⟩ = some (.int .u8 171) := m0
  have m1' : (w.drewN n).cell? ⟨g', N + 1, none⟩ = some (.int .u8 172) := m1
  generalize w.drewN n = w2 at *
  clear c1 m0 m1 hg
  go_wp2_with fail
  go_loopw [8] (fun i wr => ∃ (k : Nat) (cur' : Array Value), k ≤ M ∧ i = .int .i64 k ∧ wr.heap[g']? = some (.cells cur' 5 (0, 0)) ∧ cur'.size = cap ∧ AllU8 cur' M ∧ Turn (fun k => k = g') w wr) (fun i _ => M - (intOf i).toNat)
  case atStart => exact ⟨0, cur, Nat.zero_le _, rfl, hg1, h3, hall, T1⟩
  case round =>
    obtain ⟨k, cur', hk, rfl, hg', h3', hall', hT⟩ := hrel
    clear hall m0' m1' hg1
    by_cases hlt : k < M
    · obtain ⟨b, hb⟩ := hall' k hlt
      have hc : wr.cell? ⟨g', k, none⟩ = some (.int .u8 b) := by rw [cell_of_row wr g' k cur' 5 (0, 0) hg']; exact hb
      have hf : wr.frozen? ⟨g', k, none⟩ = false := frozen_of_row wr g' k cur' 5 hg'
      have hlt' : (k : Int) < (M : Int) := by omega
      have hk1 : Hid (k + 1 ≤ M) := hlt
      have hkc : Hid (k < cur'.size) := by show k < cur'.size; omega
      clear hb
      go_wp2_with fail
      all_goals
        go_roundw
        case rel => exact ⟨k + 1, _, hk1.out, by go_num, cells_set k _ hg', by simpa using h3', hall'.set k _ hkc.out, hT.setCell (fun _ => rfl) _⟩
        case measure => have := hk1.out; simp [intOf]; omega
    · have hge : ¬ (k : Int) < (M : Int) := by omega
      go_wp2_with fail
      go_ret
      refine ⟨rfl, hT, ?_⟩
      first | exact ⟨cur', hg', h3', by omega, H2.out⟩ | exact ⟨cap, cur', rfl, hg', h3', by omega, H2.out⟩

theorem not_u8 (c : UInt8) : bits .xor .u8 IntKind.u8.max (c.toNat : Int) = (((255 : UInt8) ^^^ c).toNat : Int) := by
  have ha := UInt8.toNat_lt c
  have := u8_xor_nat 255 c.toNat (by omega) (by omega)
  rw [UInt8.toNat_xor]
  exact this
theorem Own.setAt' {w : World} {e : TypeId} {g n cap : Nat} {xs : List Value} (h : Own w e (.slice (some ⟨g, 0, none⟩) n cap) xs) (i : Nat) (hi : i < xs.length) (u : Value) : Own (w.setCell ⟨g, i, none⟩ u) e (.slice (some ⟨g, 0, none⟩) n cap) (xs.set i u) := by
  rcases h.shape with ⟨q, _⟩ | ⟨g', cap', cur, q, hg, h1, h2, h3, h4⟩
  · cases q
  · cases q
    have := Own.of (xs := xs.set i u) (cap := cap) (cells_set i u hg) (by simpa using h1) h2 (by simp [h3]) (by
      rw [List.length_set, Array.toList_setIfInBounds, List.take_set, h4])
    simpa using this
theorem Own.frz {w : World} {e : TypeId} {g n cap : Nat} {xs : List Value} (h : Own w e (.slice (some ⟨g, 0, none⟩) n cap) xs) (i : Nat) : w.frozen? ⟨g, i, none⟩ = false := by
  rcases h.shape with ⟨q, _⟩ | ⟨g', cap', cur, q, hg, _⟩
  · cases q
  · cases q
    exact frozen_of_row w g i _ e hg

set_option maxRecDepth 100000 in
set_option maxHeartbeats 2000000 in
theorem turn15 (w : World) (v : Value) (bs : List UInt8) (ho : Own w 5 v (bs.map bv)) (hle : bs.length + 50 ≤ 140737488355328) :
    Calls Tryd.prog 15 #[v] w fun e w' => e = .returned (.tuple #[]) ∧ Turn (fun k => v.ownBlock = some k) w w' := by
  obtain ⟨a, n, c, hv, hn⟩ := ho.fn
  rw [List.length_map] at hn
  have hsh := (hv ▸ ho).shape2
  have hn2 : n + 50 ≤ 140737488355328 := by rw [hn.out]; exact hle
  obtain ⟨S, hS⟩ : ∃ S : Nat → Prop, (fun k => v.ownBlock = some k) = S := ⟨_, rfl⟩
  have hSv : ∀ k, v.ownBlock = some k → S k := fun k q => by rw [← hS]; exact q
  rw [hS]
  subst hv
  go_enter Tryd.func15, Tryd.ntmps15
  go_wp2_with fail
  go_loopw [2] (fun i wr => ∃ (k : Nat) (cs : List UInt8), k ≤ n ∧ cs.length = n ∧ i = .int .i64 k ∧ Own wr 5 (.slice a n c) (cs.map bv) ∧ Turn S w wr) (fun i _ => n - (intOf i).toNat)
  case atStart => exact ⟨0, bs, Nat.zero_le _, hn.out.symm, rfl, ho, Turn.refl _ _⟩
  case round =>
    obtain ⟨k, cs, hk, hcs, rfl, O, T⟩ := hrel
    by_cases hlt : k < n
    · rcases hsh with ⟨rfl, rfl, rfl, _⟩ | ⟨g, rfl, hbc, hbc2⟩
      · omega
      have hlt' : (k : Int) < (n : Int) := by omega
      have hk1 : Hid (k + 1 ≤ n) := hlt
      obtain ⟨x, hx⟩ : ∃ x, cs[k]? = some x := ⟨cs[k]'(by omega), List.getElem?_eq_getElem _⟩
      have cx : wr.cell? ⟨g, k, none⟩ = some (.int .u8 x.toNat) := O.cell k (bv x) (by rw [List.getElem?_map, hx]; rfl)
      have fx := O.frz k
      have O1 := O.setAt' k (by rw [List.length_map]; omega) (bv (255 ^^^ x))
      rw [← List.map_set] at O1
      have O1 : Own (wr.setCell ⟨g, k, none⟩ (.int .u8 ((255 : UInt8) ^^^ x).toNat)) 5 (.slice (some ⟨g, 0, none⟩) n c) ((cs.set k (255 ^^^ x)).map bv) := O1
      have nx := not_u8 x
      have hs : IntKind.u8.signed = false := rfl
      have T1 : Turn S w (wr.setCell ⟨g, k, none⟩ (.int .u8 ((255 : UInt8) ^^^ x).toNat)) := T.setCell (fun _ => hSv g rfl) _
      have hl : Hid ((cs.set k (255 ^^^ x)).length = n) := by show (cs.set k (255 ^^^ x)).length = n; rw [List.length_set]; exact hcs
      clear O T hx
      go_wp2_with fail
      all_goals
        go_roundw
        case rel => exact ⟨k + 1, cs.set k (255 ^^^ x), hk1.out, hl.out, by go_num, O1, T1⟩
        case measure => have := hk1.out; simp [intOf]; omega
    · have hlt' : ¬ (k : Int) < (n : Int) := by omega
      clear hsh ho hn
      go_wp2_with fail
      go_loopw [0, 3] (fun b j wr => ∃ (m : Nat) (ds : List UInt8), m ≤ 40 ∧ ds.length = n + m ∧ j = .int .i64 m ∧ Own wr 5 b (ds.map bv) ∧ (∀ g, b.ownBlock = some g → S g ∨ w.heap.size ≤ g) ∧ Turn S w wr) (fun _ j _ => 40 - (intOf j).toNat)
      case atStart => exact ⟨0, cs, by omega, by omega, rfl, O, fun g q => Or.inl (hSv g q), T⟩
      case round =>
        obtain ⟨m, ds, hm, hds, rfl, P, hf, U⟩ := hrel
        clear O T
        obtain ⟨ba, bn, bc, rfl⟩ := P.form
        by_cases h40 : m < 40
        · have h40' : (m : Int) < 40 := by omega
          go_wp2_with (at_builtin; refine wpList_append_src rfl (.tmp 22) (.tmp 23) rfl Tryd.underlying22 Tryd.info5 rfl _ _ rfl (P.turn_no ((Turn.refl no _).alloc _)) _ 1 (List.map bv [99]) rfl ?src ?bb ?mm ?_)
          case src => exact src_lit Tryd.underlying22 _ [99]
          case bb => rw [List.length_map, hds]; omega
          case mm => rw [List.length_map, hds]; unfold maxLen; omega
          intro v1 w1 O1 g1 _
          have O1 : Own w1 5 v1 ((ds ++ [99]).map bv) := by simpa using O1
          have U1 : Turn S w w1 := (U.alloc _).grown g1.grown (fun k q hk => (hf k q).resolve_right (by omega))
          have f1 : ∀ g, v1.ownBlock = some g → S g ∨ w.heap.size ≤ g := by
            intro g q
            rcases g1.blk with e | ⟨g', e, h1, _⟩
            · rw [e] at q; exact hf g q
            · rw [e] at q; cases q
              refine Or.inr ?_
              have := U.size
              simp at h1
              omega
          obtain ⟨va, vn, vc, rfl⟩ := O1.form
          clear g1 P U hf
          go_wp2_with fail
          go_roundw
          case rel => exact ⟨m + 1, ds ++ [99], by omega, by simp; omega, by go_num, O1, f1, U1⟩
          case measure => simp [intOf]; omega
        · have h40' : ¬ (m : Int) < 40 := by omega
          go_wp2_with fail
          go_end0
          exact ⟨rfl, U⟩
end Go.Proofs.YtbkbecjgphjpkaaDoor
