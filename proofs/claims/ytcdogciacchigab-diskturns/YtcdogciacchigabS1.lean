/- left: what a loss of power leaves of a file. -/
import Derived.Test.YtcdogciacchigabM5
namespace Go.Proofs.Ytcdogciacchigab
open Go.RowKit Go.Maps
set_option linter.unusedVariables false

theorem Own.setAt {w : World} {e : TypeId} {g n cap : Nat} {xs : List Value} (h : Own w e (.slice (some ⟨g, 0, none⟩) n cap) xs) (k : Nat) (u : Value) : Own (w.setCell ⟨g, k, none⟩ u) e (.slice (some ⟨g, 0, none⟩) n cap) (xs.set k u) := by
  rcases h.shape with ⟨e1, _⟩ | ⟨g', cap', cur, e1, hg, h1, h2, h3, h4⟩
  · cases e1
  · cases e1
    have := Own.of (w := w.setCell ⟨g, k, none⟩ u) (e := e) (xs := xs.set k u) (g := g) (cap := cap) (cur := cur.setIfInBounds k u) (heap_setCell_same w g k cur e u hg) (by simpa using h1) h2 (by simpa using h3) (by
      rw [Array.toList_setIfInBounds, List.length_set, List.take_set, h4])
    simpa using this
theorem Own.frozen {w : World} {e : TypeId} {g n cap : Nat} {xs : List Value} (h : Own w e (.slice (some ⟨g, 0, none⟩) n cap) xs) (k : Nat) : w.frozen? ⟨g, k, none⟩ = false := by
  rcases h.shape with ⟨e1, _⟩ | ⟨g', cap', cur, e1, hg, _⟩
  · cases e1
  · cases e1
    exact frozen_of_row w g k cur e hg
def xorB (a b : UInt8) : UInt8 := UInt8.ofNat (bits .xor .u8 (a.toNat : Int) (b.toNat : Int)).toNat
theorem xorB_eq (a b : UInt8) : bits .xor .u8 (a.toNat : Int) (b.toNat : Int) = ((xorB a b).toNat : Int) := by
  have h : ∃ m : Nat, m < 256 ∧ bits .xor .u8 (a.toNat : Int) (b.toNat : Int) = (m : Int) := by
    have e : ∃ z : Int, bits .xor .u8 (a.toNat : Int) (b.toNat : Int) = IntKind.u8.wrap z := ⟨_, rfl⟩
    obtain ⟨z, e⟩ := e
    rw [e, IntKind.wrap_u8]
    exact ⟨(z % 256).toNat, by omega, by omega⟩
  obtain ⟨m, hm, e⟩ := h
  unfold xorB
  rw [e]
  simp
  omega
/-- How many of the bytes that are not synced are kept. -/
def keepN (len sy : Nat) (k : Int) : Nat := min k.toNat (len - sy)
def leftB (bs : List UInt8) (sy : Nat) (k : Int) (junk : UInt8) : List UInt8 :=
  if keepN bs.length sy k = 0 then bs.take sy else (bs.take (sy + keepN bs.length sy k)).set (sy + keepN bs.length sy k - 1) (xorB (bs.getD (sy + keepN bs.length sy k - 1) 0) junk)
theorem take_bs {w : World} {v : Value} {bs : List UInt8} (h : Own w 5 v (bs.map bv)) (n : Nat) (hn : n ≤ bs.length) : ∃ a c, v = .slice a bs.length c ∧ bs.length ≤ c ∧ Bs w (.slice a n c) (bs.take n) := by
  have htl : (bs.take n).length = n := by rw [List.length_take]; omega
  rcases h.shape with ⟨e, q⟩ | ⟨g, cap, cur, e, hg, hc, hcm, _⟩
  · have hnil := List.map_eq_nil_iff.1 q
    rw [hnil] at hn
    simp at hn
    subst hn
    exact ⟨none, 0, by simp [e, hnil], by simp [hnil], Or.inl ⟨rfl, by simp⟩⟩
  · simp only [List.length_map] at hc e
    refine ⟨_, _, e, hc, Or.inr ⟨⟨g, 0, none⟩, cap, by rw [htl], by rw [htl]; omega, hcm, fun j u hu => ?_⟩⟩
    rw [List.getElem?_take] at hu
    split at hu
    · rw [e] at h
      have := h.cell j (bv u) (by simp [hu])
      rw [Addr.add_lit]
      simpa using this
    · cases hu

set_option maxRecDepth 100000 in
set_option maxHeartbeats 2000000 in
theorem left38_n (w : World) (v : Value) (bs : List UInt8) (sy n : Nat) (k : Int) (junk : UInt8) (hO : Own w 5 v (bs.map bv)) (hs : sy ≤ bs.length) (hl : bs.length ≤ 1073741824)
    (hk : (k < 0 ∧ n = 0) ∨ (k = (n : Int) ∧ sy + n ≤ bs.length) ∨ ((n : Int) < k ∧ sy + n = bs.length)) :
    Calls Try.prog 65 #[fileV v sy, .int .i64 k, .int .u8 junk.toNat] w fun e w' => ∃ v', e = .returned v' ∧ Own w' 5 v' ((if n = 0 then bs.take sy else (bs.take (sy + n)).set (sy + n - 1) (xorB (bs.getD (sy + n - 1) 0) junk)).map bv) ∧ (∀ g, v'.ownBlock = some g → w.heap.size ≤ g) ∧ Turn no w w' := by
  have T0 : Turn no w (w.alloc (.cells #[v, .int .i64 sy] 97)) := (Turn.refl no w).alloc _
  have hO1 := hO.turn_no T0
  have hnl : sy + n ≤ bs.length := by omega
  obtain ⟨a, c, hv, hc, hpre⟩ := take_bs hO1 (sy + n) hnl
  have htl : (bs.take (sy + n)).length = sy + n := by rw [List.length_take]; omega
  have hcp := copied47 _ _ _ hpre (by rw [htl]; omega)
  have e1 : IntKind.i64.wrap ((bs.length : Int) - (sy : Int)) = (bs.length : Int) - (sy : Int) := wrap_i64 (by omega) (by omega)
  have hsz : (w.alloc (.cells #[v, .int .i64 sy] 97)).heap.size = w.heap.size + 1 := by simp
  obtain ⟨N, hN⟩ : ∃ N, N = sy + n := ⟨_, rfl⟩
  rw [← hN] at hcp htl hpre hnl ⊢
  have cN : (sy : Int) + (n : Int) = (N : Int) := by omega
  have i1 : (N : Int) ≤ (c : Int) := by omega
  have i2 : N ≤ c := by omega
  have hfin : ∀ W v', Own W 5 v' ((bs.take N).map bv) → v'.ownBlock = some (w.alloc (.cells #[v, .int .i64 sy] 97)).heap.size → Turn no (w.alloc (.cells #[v, .int .i64 sy] 97)) W → ∃ g cp, g = w.heap.size + 1 ∧ v' = .slice (some ⟨g, 0, none⟩) N cp ∧ Own W 5 (.slice (some ⟨g, 0, none⟩) N cp) ((bs.take N).map bv) ∧ Turn no w W := fun W v' hO' hB t => by
    rcases hO'.shape with ⟨e, _⟩ | ⟨g, cap, cur, e, _⟩
    · rw [e] at hB; cases hB
    · rw [e] at hB
      simp only [Value.ownBlock, Option.some.injEq] at hB
      simp only [List.length_map, htl] at e
      exact ⟨g, cap, by rw [hB, hsz], e, e ▸ hO', T0.then_no t⟩
  have b0 := (Row.new w #[v, .int .i64 sy] 97).cell 0 _ rfl
  have b1 := (Row.new w #[v, .int .i64 sy] 97).cell 1 _ rfl
  subst hv
  unfold fileV at *
  clear hO hO1 hpre hsz
  generalize hw1 : w.alloc (.cells #[.slice a bs.length c, .int .i64 sy] 97) = w1 at *
  rcases hk with ⟨hk, h0⟩ | ⟨hk, hk2⟩ | ⟨hk, hk2⟩
  · subst h0
    have j1 : ¬ (bs.length : Int) - (sy : Int) < 0 := by omega
    have j2 : (0 : Int) ≤ (bs.length : Int) - (sy : Int) := by omega
    have hN2 : N = sy := by omega
    subst hN2
    rw [if_pos rfl]
    clear hN cN
    go_enter Try.func65, Try.ntmps65
    go_wp2_with fail
    refine hcp.mono ?_
    rintro e w2 ⟨v', rfl, hO', hB, t2⟩
    obtain ⟨g, cp, hg, rfl, hO2, T2⟩ := hfin w2 v' hO' hB t2
    clear hO' hB
    have HG : Hid (g = w.heap.size + 1) := hg
    clear hg
    go_wp2_with fail
    go_ret
    exact ⟨_, rfl, hO2, (fun g' hg' => by have := HG.out; simp [Value.ownBlock] at hg'; omega), T2⟩
  · subst hk
    have j0 : ¬ (n : Int) < 0 := by omega
    have j1 : (n : Int) ≤ (bs.length : Int) - (sy : Int) := by omega
    by_cases h0 : n = 0
    · subst h0
      have hN2 : N = sy := by omega
      subst hN2
      rw [if_pos rfl]
      clear hN cN
      go_enter Try.func65, Try.ntmps65
      go_wp2_with fail
      refine hcp.mono ?_
      rintro e w2 ⟨v', rfl, hO', hB, t2⟩
      obtain ⟨g, cp, hg, rfl, hO2, T2⟩ := hfin w2 v' hO' hB t2
      clear hO' hB
      have HG : Hid (g = w.heap.size + 1) := hg
      clear hg
      go_wp2_with fail
      go_ret
      exact ⟨_, rfl, hO2, (fun g' hg' => by have := HG.out; simp [Value.ownBlock] at hg'; omega), T2⟩
    · skip
      rw [if_neg h0]
      have hpn : (0 : Int) < (n : Int) := by omega
      have hN1 : IntKind.i64.wrap ((N : Int) - 1) = ((N - 1 : Nat) : Int) := by rw [wrap_i64 (by omega) (by omega)]; omega
      have hN2 : ((N - 1 : Nat) : Int) < (N : Int) := by omega
      have hN3 : N - 1 < N := by omega
      obtain ⟨M, hM⟩ : ∃ M, M = N - 1 := ⟨_, rfl⟩
      rw [← hM] at hN1 hN2 hN3 ⊢
      have hb : bs[M]? = some (bs.getD M 0) := by simp [show M < bs.length by omega]
      have hb2 : (bs.take N)[M]? = some (bs.getD M 0) := by rw [List.getElem?_take, if_pos hN3]; exact hb
      have hx := xorB_eq (bs.getD M 0) junk
      generalize bs.getD M 0 = y at *
      clear hN hM hb
      go_enter Try.func65, Try.ntmps65
      go_wp2_with fail
      refine hcp.mono ?_
      rintro e w2 ⟨v', rfl, hO', hB, t2⟩
      obtain ⟨g, cp, hg, rfl, hO2, T2⟩ := hfin w2 v' hO' hB t2
      clear hO' hB
      have cb : w2.cell? ⟨g, M, none⟩ = some (.int .u8 y.toNat) := hO2.cell M (bv y) (by rw [List.getElem?_map, hb2]; rfl)
      have fb := hO2.frozen M
      have hO3 : Own (w2.setCell ⟨g, M, none⟩ (.int .u8 (xorB y junk).toNat)) 5 (.slice (some ⟨g, 0, none⟩) N cp) (((bs.take N).set M (xorB y junk)).map bv) := by
        have := hO2.setAt M (bv (xorB y junk))
        rw [List.map_set]
        exact this
      have T3 : Turn no w (w2.setCell ⟨g, M, none⟩ (.int .u8 (xorB y junk).toNat)) := T2.setCell (p := ⟨g, M, none⟩) (fun q => by simp at q; omega) _
      have hMc : (0 : Int) ≤ (M : Int) := by omega
      have HG : Hid (g = w.heap.size + 1) := hg
      clear hO2 T2 t2 hfin hg
      go_wp2_with fail
      go_ret
      exact ⟨_, rfl, hO3, (fun g' hg' => by have := HG.out; simp [Value.ownBlock] at hg'; omega), T3⟩
  · have j0 : ¬ k < 0 := by omega
    have j1 : ¬ k ≤ (bs.length : Int) - (sy : Int) := by omega
    have j2 : (bs.length : Int) - (sy : Int) = (n : Int) := by omega
    rw [j2] at e1 j1
    by_cases h0 : n = 0
    · subst h0
      have hN2 : N = sy := by omega
      subst hN2
      rw [if_pos rfl]
      clear hN cN
      go_enter Try.func65, Try.ntmps65
      go_wp2_with fail
      refine hcp.mono ?_
      rintro e w2 ⟨v', rfl, hO', hB, t2⟩
      obtain ⟨g, cp, hg, rfl, hO2, T2⟩ := hfin w2 v' hO' hB t2
      clear hO' hB
      have HG : Hid (g = w.heap.size + 1) := hg
      clear hg
      go_wp2_with fail
      go_ret
      exact ⟨_, rfl, hO2, (fun g' hg' => by have := HG.out; simp [Value.ownBlock] at hg'; omega), T2⟩
    · skip
      rw [if_neg h0]
      have hpn : (0 : Int) < (n : Int) := by omega
      have hN1 : IntKind.i64.wrap ((N : Int) - 1) = ((N - 1 : Nat) : Int) := by rw [wrap_i64 (by omega) (by omega)]; omega
      have hN2 : ((N - 1 : Nat) : Int) < (N : Int) := by omega
      have hN3 : N - 1 < N := by omega
      obtain ⟨M, hM⟩ : ∃ M, M = N - 1 := ⟨_, rfl⟩
      rw [← hM] at hN1 hN2 hN3 ⊢
      have hb : bs[M]? = some (bs.getD M 0) := by simp [show M < bs.length by omega]
      have hb2 : (bs.take N)[M]? = some (bs.getD M 0) := by rw [List.getElem?_take, if_pos hN3]; exact hb
      have hx := xorB_eq (bs.getD M 0) junk
      generalize bs.getD M 0 = y at *
      clear hN hM hb
      go_enter Try.func65, Try.ntmps65
      go_wp2_with fail
      refine hcp.mono ?_
      rintro e w2 ⟨v', rfl, hO', hB, t2⟩
      obtain ⟨g, cp, hg, rfl, hO2, T2⟩ := hfin w2 v' hO' hB t2
      clear hO' hB
      have cb : w2.cell? ⟨g, M, none⟩ = some (.int .u8 y.toNat) := hO2.cell M (bv y) (by rw [List.getElem?_map, hb2]; rfl)
      have fb := hO2.frozen M
      have hO3 : Own (w2.setCell ⟨g, M, none⟩ (.int .u8 (xorB y junk).toNat)) 5 (.slice (some ⟨g, 0, none⟩) N cp) (((bs.take N).set M (xorB y junk)).map bv) := by
        have := hO2.setAt M (bv (xorB y junk))
        rw [List.map_set]
        exact this
      have T3 : Turn no w (w2.setCell ⟨g, M, none⟩ (.int .u8 (xorB y junk).toNat)) := T2.setCell (p := ⟨g, M, none⟩) (fun q => by simp at q; omega) _
      have hMc : (0 : Int) ≤ (M : Int) := by omega
      have HG : Hid (g = w.heap.size + 1) := hg
      clear hO2 T2 t2 hfin hg
      go_wp2_with fail
      go_ret
      exact ⟨_, rfl, hO3, (fun g' hg' => by have := HG.out; simp [Value.ownBlock] at hg'; omega), T3⟩

theorem left38 (w : World) (v : Value) (bs : List UInt8) (sy : Nat) (k : Int) (junk : UInt8) (hO : Own w 5 v (bs.map bv)) (hs : sy ≤ bs.length) (hl : bs.length ≤ 1073741824) :
    Calls Try.prog 65 #[fileV v sy, .int .i64 k, .int .u8 junk.toNat] w fun e w' => ∃ v', e = .returned v' ∧ Own w' 5 v' ((leftB bs sy k junk).map bv) ∧ (∀ g, v'.ownBlock = some g → w.heap.size ≤ g) ∧ Turn no w w' :=
  left38_n w v bs sy (keepN bs.length sy k) k junk hO hs hl (by unfold keepN; omega)
end Go.Proofs.Ytcdogciacchigab
