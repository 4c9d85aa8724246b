/- The walk of 'all'. -/
import Derived.Test.YtfjdojodbhmmaaaV4
namespace Go.Proofs.Ytfjdojodbhmmaaa
open Go.RowKit
set_option linter.unusedVariables false

set_option maxRecDepth 100000 in
set_option maxHeartbeats 400000 in
theorem all_none (w : World) (vl : Value) (ps : List Pt) (h : Ps w vl ps) (h0 : ps.length = 0) :
    Calls Try.prog 13 #[vl] w fun e w' => ∃ v', e = .returned (.tuple #[v', .bool true]) ∧ Own w' 5 v' ((laidAll ps).map bv) ∧ (∀ g, v'.ownBlock = some g → w.heap.size ≤ g) ∧ Turn no w w' := by
  obtain ⟨a, c, rfl⟩ := h.slice
  have e1 : ps = [] := List.eq_nil_of_length_eq_zero h0
  subst e1
  clear h
  go_enter Try.func13, Try.ntmps13
  go_wp2_with fail
  refine (newWriter_any _).mono ?_
  rintro e w1 ⟨rfl, x1, t1⟩
  go_wp2_with fail
  go_loop [5] (fun i => i = .int .i64 0) (fun _ => 0)
  case atStart => rfl
  case round =>
    subst hrel
    go_wp2_with fail
    refine (out_made _ _ _ [] x1 (by simp)).mono ?_
    rintro e w2 ⟨v2, rfl, o2, f2, t2⟩
    obtain ⟨ad, ln, cp, rfl⟩ := o2.form
    have hs := t1.size
    go_wp2_with fail
    refine (num_any _ _).mono ?_
    rintro e w' ⟨rfl, rfl⟩
    go_wp2_with fail
    go_ret2
    exact ⟨_, rfl, o2, fun g q => by have := f2 g q; omega, t1.then_no t2⟩

set_option maxRecDepth 100000 in
set_option maxHeartbeats 2000000 in
theorem all_any (w : World) (vl : Value) (ps : List Pt) (h : Ps w vl ps) (hroom : roomAll ps + 20 ≤ 140737488355328) :
    Calls Try.prog 13 #[vl] w fun e w' => ∃ v', e = .returned (.tuple #[v', .bool true]) ∧ Own w' 5 v' ((laidAll ps).map bv) ∧ (∀ g, v'.ownBlock = some g → w.heap.size ≤ g) ∧ Turn no w w' := by
  by_cases h0 : ps.length = 0
  · exact all_none w vl ps h h0
  have hl := h.le
  unfold maxLen at hl
  obtain ⟨b, o, cap, rfl, _, hat⟩ := h.at (by omega)
  clear h
  go_enter Try.func13, Try.ntmps13
  go_wp2_with fail
  refine (newWriter_any _).mono ?_
  rintro e w1 ⟨rfl, x1, t1⟩
  have hn1 : ∀ k, wfoot w.heap.size (.slice none 0 0) k → w.heap.size ≤ k := by
    rintro k (q | q)
    · omega
    · cases q
  generalize hq : w.heap.size = q at x1 hn1 ⊢
  have hq' : w.heap.size ≤ q := by omega
  go_wp2_with fail
  go_loopw [5] (fun c wr => ∃ (k : Nat) (v : Value), k ≤ ps.length ∧ c = .int .i64 k ∧ Wr wr q v (laidAll (ps.take k)) 0 ∧ (∀ j, wfoot q v j → w.heap.size ≤ j) ∧ Turn no w wr) (fun c _ => ps.length - (intOf c).toNat)
  case atStart => exact ⟨0, _, Nat.zero_le _, rfl, by simpa [laidAll] using x1, fun j r => by have := hn1 j r; omega, t1⟩
  case round =>
    obtain ⟨k, v, hk, rfl, X, hf, T⟩ := hrel
    clear x1 t1 hn1
    by_cases hlt : k < ps.length
    · have hx := (hat k ps[k] (by simp [hlt])).turn_no T
      have hsn : laidAll (ps.take (k + 1)) = laidAll (ps.take k) ++ (if mayB ps[k] then (enc ps[k].k ps[k].n ps[k].B).1 else []) := by rw [List.take_succ_eq_append_getElem hlt, laidAll_snoc]
      have hrm := room_take ps k hlt
      have hll := laidAll_le (ps.take k)
      have hbo : ∀ (hB : ps[k].B ≠ []), ∀ g, ps[k].vb.ownBlock = some g → ¬ wfoot q v g := fun hB g hg hw => by
        have h1 := (hat k ps[k] (by simp [hlt])).2.2.2.2.old hB g hg
        have h2 := hf g hw
        omega
      generalize ps[k] = x at *
      obtain ⟨c0, c1, c2⟩ := hx.lit
      obtain ⟨_, _, _, hn, hB⟩ := hx
      obtain ⟨ba, bc, hvb⟩ := hB.slice
      have hlt' : (k : Int) < (ps.length : Int) := by omega
      have hmay := fun W => may_any W x hn ba _ bc hvb
      have hlen : (laidAll (ps.take k)).length + x.B.length + 20 ≤ 140737488355328 := by omega
      have hlay := fun W (t : Turn no wr W) => lay_made W q v (laidAll (ps.take k)) x.k x.n hn x.vb x.B (X.turn_no t) (hB.turn_no t) hbo hlen
      have hplace : b < w.heap.size := World.block_lt_of_cell? w ⟨b, o + k * 3, none⟩ (by
        have := (hat k (ps[k]) (by simp [hlt])).1
        exact this)
      rw [hvb] at c2 hmay hlay
      by_cases hm : mayB x = true
      · rw [hm] at hmay
        rw [if_pos hm] at hsn
        have henc := (rget_back [] [] x.k x.n x.B hn (by omega) (mayP_of hm)).1
        rw [henc] at hlay
        go_wp2_with fail
        refine (hmay _).mono ?_
        rintro e w2 ⟨rfl, t2⟩
        have d0 := t2.keep c0 (fun q => q)
        have d1 := t2.keep c1 (fun q => q)
        have d2 := t2.keep c2 (fun q => q)
        go_wp2_with fail
        refine (hlay _ t2).mono ?_
        rintro e w3 ⟨rfl, v3, m1, m2, m3⟩
        go_wp2_with fail
        go_roundw
        case rel =>
          refine ⟨k + 1, v3, by omega, by go_num, by rw [hsn]; exact m1, fun j r => ?_, (T.then_no t2).trans m2 (fun i hi r => by exfalso; have := hf i r; omega)⟩
          rcases r with r | r
          · exact hf j (Or.inl r)
          · rcases m3 with s | ⟨g, s, hg⟩
            · exact hf j (Or.inr (by rw [← s]; exact r))
            · rw [s] at r; cases r; have := T.size; have := t2.size; omega
        case measure => simp [intOf]; omega
      · have hm' : mayB x = false := by simpa using hm
        rw [hm'] at hmay
        rw [if_neg hm, List.append_nil] at hsn
        go_wp2_with fail
        refine (hmay _).mono ?_
        rintro e w2 ⟨rfl, t2⟩
        go_wp2_with fail
        go_roundw
        case rel => exact ⟨k + 1, v, by omega, by go_num, by rw [hsn]; exact X.turn_no t2, hf, T.then_no t2⟩
        case measure => simp [intOf]; omega
    · have hlt' : ¬ (k : Int) < (ps.length : Int) := by omega
      have hks : k = ps.length := by omega
      rw [hks, List.take_length] at X
      have hll := laidAll_le ps
      go_wp2_with fail
      refine (out_made _ _ _ _ X (by omega)).mono ?_
      rintro e w2 ⟨v2, rfl, o2, f2, t2⟩
      obtain ⟨ad, ln, cp, rfl⟩ := o2.form
      have hs := T.size
      go_wp2_with fail
      refine (num_any _ _).mono ?_
      rintro e w' ⟨rfl, rfl⟩
      go_wp2_with fail
      go_ret2
      exact ⟨_, rfl, o2, fun g r => by have := f2 g r; omega, T.then_no t2⟩
end Go.Proofs.Ytfjdojodbhmmaaa
