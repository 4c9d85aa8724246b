/- WalSpoilt: the walk. -/
import Derived.Test.YtbkbecjgphjpkaaDoorTornW
namespace Go.Proofs.YtbkbecjgphjpkaaDoor
open Go.RowKit
set_option linter.unusedVariables false

theorem xor_u8 (a b : UInt8) : bits .xor .u8 (a.toNat : Int) (b.toNat : Int) = ((a ^^^ b).toNat : Int) := by
  have ha := UInt8.toNat_lt a
  have hb := UInt8.toNat_lt b
  rw [u8_xor_nat _ _ (by omega) (by omega), UInt8.toNat_xor]
theorem xor_ne (a b : UInt8) (h : b ≠ 0) : a ^^^ b ≠ a := by
  intro q
  apply h
  have h1 := congrArg UInt8.toNat q
  rw [UInt8.toNat_xor] at h1
  have h2 : b.toNat = 0 := xor_inj (a := a.toNat) (by rw [h1, Nat.xor_zero])
  exact UInt8.toNat_inj.1 (by rw [h2]; rfl)
theorem Own.setAt {w : World} {e : TypeId} {g n cap : Nat} {xs : List Value} (h : Own w e (.slice (some ⟨g, 0, none⟩) n cap) xs) (i : Nat) (hi : i < xs.length) (u : Value) : Own (w.setCell ⟨g, i, none⟩ u) e (.slice (some ⟨g, 0, none⟩) n cap) (xs.set i u) := by
  rcases h.shape with ⟨q, _⟩ | ⟨g', cap', cur, q, hg, h1, h2, h3, h4⟩
  · cases q
  · cases q
    have := Own.of (xs := xs.set i u) (cap := cap) (cells_set i u hg) (by simpa using h1) h2 (by simp [h3]) (by
      rw [List.length_set, Array.toList_setIfInBounds, List.take_set, h4])
    simpa using this

set_option maxRecDepth 100000 in
set_option maxHeartbeats 4000000 in
theorem spoilt_walk (w : World) (vr : Value) (ts : List It) (at0 : Int) (by0 : UInt8) (h : Bl w vr ts) (hL : LaidT w) (h1 : -9223372036854775808 ≤ at0) (h2 : at0 < 9223372036854775808) (hle : (cat (ts.map (·.2))).length ≤ 1073741824) :
    Calls Tryd.prog 7 #[vr, .int .i64 at0, .int .u8 by0.toNat] w fun e w' => e = .returned (.bool true) ∧ Turn no w w' := by
  have c1 := alive20 w hL
  obtain ⟨ra, rc, rfl⟩ := h.form
  go_enter Tryd.func7, Tryd.ntmps7
  go_wp2_with fail
  refine c1.mono ?_
  rintro e w1 ⟨rfl, t1⟩
  have c2 := laid21 w1 _ ts (h.turn_no t1) (hL.turn_no t1) (by omega)
  clear c1
  go_wp2_with fail
  refine c2.mono ?_
  rintro e w2 ⟨vb, ve, vl, rfl, K⟩
  have T2 := t1.then_no K.t
  have hgs : ∀ t ∈ ts.filter fit, Bs w t.1 t.2 := fun t q => h.each t (List.mem_filter.1 q).1
  have hfm := fit_mem ts
  have hcl : (cat ((ts.filter fit).map (·.2))).length ≤ 1073741824 := Nat.le_trans (cat_le (List.Sublist.map _ List.filter_sublist)) hle
  generalize ts.filter fit = g at *
  have U2 := upto_spoilt _ hfm
  obtain ⟨ba, nb, bc, rfl, hnb⟩ := K.b.fn
  obtain ⟨ea, ne, ec, rfl, hne⟩ := K.e.fn
  obtain ⟨la, nl, lc, rfl, hnl⟩ := K.l.fn
  rw [List.length_map] at hnb hnl
  have hnb' : nb ≤ 1073741824 := by rw [hnb.out]; exact hcl
  have hsh := K.b.shape2
  have U2 := Hid.mk' U2
  clear c2
  by_cases hb0 : nb = 0
  · subst hb0
    go_wp2_with fail
    go_ret
    exact ⟨rfl, T2⟩
  by_cases hy : by0 = 0
  · subst hy
    have hb1 : ((nb : Int) == 0) = false := by simp; omega
    go_wp2_with fail
    go_ret
    exact ⟨rfl, T2⟩
  have hb1 : ((nb : Int) == 0) = false := by simp; omega
  have hy1 : ((by0.toNat : Int) == 0) = false := by
    simp
    intro q
    exact hy (UInt8.toNat_inj.1 (by rw [q]; rfl))
  have c4 := mod23 w2 at0 nb h1 h2 (by omega) (by omega)
  rcases hsh with ⟨rfl, rfl, rfl, _⟩ | ⟨q, rfl, hbc, hbc2⟩
  · omega
  go_wp2_with fail
  refine c4.mono ?_
  rintro e w4 ⟨p, hp, rfl, rfl⟩
  clear c4
  have hnbo := hnb.out
  have hpl : p < (cat (g.map (·.2))).length := by rw [← hnbo]; exact hp
  obtain ⟨x, hx⟩ : ∃ x, (cat (g.map (·.2)))[p]? = some x := ⟨_, List.getElem?_eq_getElem hpl⟩
  have cx : w4.cell? ⟨q, p, none⟩ = some (.int .u8 x.toNat) := K.b.cell p (bv x) (by rw [List.getElem?_map, hx]; rfl)
  have hbx := xor_u8 x by0
  have O5 := K.b.setAt p (by rw [List.length_map]; exact hpl) (bv (x ^^^ by0))
  rw [← List.map_set] at O5
  have O5 : Own (w4.setCell ⟨q, p, none⟩ (.int .u8 (x ^^^ by0).toNat)) 5 (.slice (some ⟨q, 0, none⟩) nb bc) (((cat (g.map (·.2))).set p (x ^^^ by0)).map bv) := O5
  have TS : Turn (fun k => k = q) w4 (w4.setCell ⟨q, p, none⟩ (.int .u8 (x ^^^ by0).toNat)) := (Turn.refl (fun k => k = q) w4).setCell (p := ⟨q, p, none⟩) (fun _ => rfl) _
  have E5 := K.e.turn TS (fun k hk hq => by subst hq; exact own_ne K.e K.b (by decide) k hk rfl)
  have L5 := K.l.turn TS (fun k hk hq => by subst hq; exact own_ne K.l K.b (by decide) k hk rfl)
  have T5 : Turn no w _ := T2.trans TS (fun k hk hq => by subst hq; have := K.fb k rfl; have := t1.size; omega)
  have hfz : w4.frozen? ⟨q, p, none⟩ = false := by
    rcases K.b.shape with ⟨e, _⟩ | ⟨g', cap', cur, e, hg, _⟩
    · cases e
    · cases e
      exact frozen_of_row w4 q p _ 5 hg
  have c5 := upTo22 _ _ _ _ _ g p O5.bs E5 L5 (fun t q => (hgs t q).turn_no T5) (hL.turn_no T5) (by rw [List.length_set]; omega) (by omega) (U2.out p hpl _ (by rw [hx]; intro q; exact xor_ne x by0 hy (Option.some.inj q).symm))
  clear O5 E5 L5 TS hnbo hx hpl
  go_wp2_with fail
  refine c5.mono ?_
  rintro e w6 ⟨rfl, t6⟩
  go_wp2_with fail
  go_ret
  exact ⟨rfl, T5.then_no t6⟩
end Go.Proofs.YtbkbecjgphjpkaaDoor
