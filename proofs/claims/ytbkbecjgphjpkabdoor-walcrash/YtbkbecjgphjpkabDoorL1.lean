/- Walks of the law: lists of byte lists; sameLists; mod. -/
import Derived.Test.YtbkbecjgphjpkabDoorK4
namespace Go.Proofs.YtbkbecjgphjpkabDoor
open Go.RowKit
set_option linter.unusedVariables false

/-- A slice of byte lists, wherever it lies. -/
def Bl (w : World) (v : Value) (ts : List (Value × List UInt8)) : Prop :=
  ∃ aa cp, v = .slice aa ts.length cp ∧ ts.length ≤ cp ∧ cp ≤ 9223372036854775807 ∧ ∀ j t, ts[j]? = some t → ∃ g o, aa = some ⟨g, o, none⟩ ∧ w.cell? ⟨g, o + j, none⟩ = some t.1 ∧ Bs w t.1 t.2
theorem Bl.turn_no {w w' : World} {v : Value} {ts : List (Value × List UInt8)} (h : Bl w v ts) (t : Turn no w w') : Bl w' v ts := by
  obtain ⟨aa, cp, e, hl, hm, hc⟩ := h
  refine ⟨aa, cp, e, hl, hm, fun j x hx => ?_⟩
  obtain ⟨g, o, e1, c, b⟩ := hc j x hx
  exact ⟨g, o, e1, t.keep c (fun q => q), b.turn_no t⟩
theorem Bl.form {w : World} {v : Value} {ts : List (Value × List UInt8)} (h : Bl w v ts) : ∃ aa cp, v = .slice aa ts.length cp := by
  obtain ⟨aa, cp, e, _⟩ := h
  exact ⟨aa, cp, e⟩
theorem Bl.take {w : World} {aa : Option Addr} {n cp : Nat} {ts : List (Value × List UInt8)} (h : Bl w (.slice aa n cp) ts) (m : Nat) (hm : m ≤ ts.length) : Bl w (.slice aa m cp) (ts.take m) := by
  obtain ⟨aa', cp', e, hl, hx, hc⟩ := h
  cases e
  refine ⟨aa, cp, by rw [List.length_take, Nat.min_eq_left hm], by rw [List.length_take]; omega, hx, fun j t ht => hc j t ?_⟩
  rw [List.getElem?_take] at ht
  split at ht
  · exact ht
  · cases ht
theorem Own.bl {w : World} {v : Value} {ts : List (Value × List UInt8)} (h : Own w 55 v (ts.map (·.1))) (hb : ∀ t ∈ ts, Bs w t.1 t.2) : Bl w v ts := by
  rcases h.shape with ⟨rfl, q⟩ | ⟨g, cap, cur, rfl, _, h1, h2, _⟩
  · have : ts = [] := List.map_eq_nil_iff.1 q
    subst this
    exact ⟨none, 0, rfl, by simp, by simp, fun j t ht => by simp at ht⟩
  · rw [List.length_map] at h1
    refine ⟨_, cap, by simp, h1, by simp only [maxLen] at h2; omega, fun j t ht => ⟨g, 0, rfl, ?_, hb t (List.mem_of_getElem? ht)⟩⟩
    rw [Nat.zero_add]
    exact h.cell j t.1 (by simp [ht])
theorem Ls.bl {B : Nat} {w : World} {v : Value} {l : List (List UInt8)} (h : Ls B w v l) : ∃ ts : List (Value × List UInt8), ts.map (·.2) = l ∧ ts.length = l.length ∧ Bl w v ts := by
  obtain ⟨vs, h1, h2, _, _, h5⟩ := h
  have e1 : (vs.zip l).map (·.1) = vs := by rw [List.map_fst_zip (by omega)]
  have e2 : (vs.zip l).map (·.2) = l := by rw [List.map_snd_zip (by omega)]
  refine ⟨vs.zip l, e2, by simp [h1], Own.bl (by rw [e1]; exact h2) (fun t ht => ?_)⟩
  obtain ⟨j, hj, rfl⟩ := List.mem_iff_getElem.1 ht
  have hl : j < vs.length ∧ j < l.length := by simp at hj; omega
  rw [List.getElem_zip]
  exact (h5 j l[j] vs[j] (List.getElem?_eq_getElem hl.2) (List.getElem?_eq_getElem hl.1)).1.bs

set_option maxRecDepth 100000 in
set_option maxHeartbeats 2000000 in
theorem sameLists18 (w : World) (v1 v2 : Value) (t1 t2 : List (Value × List UInt8)) (h1 : Bl w v1 t1) (h2 : Bl w v2 t2) (he : t1.map (·.2) = t2.map (·.2)) : Calls Tryd.prog 8 #[v1, v2] w fun e w' => e = .returned (.bool true) ∧ Turn no w w' := by
  have hlen : t1.length = t2.length := by simpa using congrArg List.length he
  obtain ⟨a1, p1, e1, hl1, hm1, c1⟩ := h1
  obtain ⟨a2, p2, e2, hl2, hm2, c2⟩ := h2
  rw [← hlen] at e2
  obtain ⟨n, hn⟩ : ∃ n, Hid (t1.length = n) := ⟨_, rfl⟩
  rw [show t1.length = n from hn.out] at e1 e2 hl1
  subst e1
  subst e2
  have hn0 : ((n : Int) != (n : Int)) = false := by simp
  clear hlen hl2
  go_enter Tryd.func8, Tryd.ntmps8
  go_wp2_with fail
  go_loopw [5] (fun c wr => ∃ i : Nat, i ≤ n ∧ c = .int .i64 i ∧ Turn no w wr) (fun c _ => n - (intOf c).toNat)
  case atStart => exact ⟨0, Nat.zero_le _, rfl, Turn.refl _ _⟩
  case round =>
    obtain ⟨i, hi, rfl, T⟩ := hrel
    by_cases hlt : i < n
    · have hlt' : (i : Int) < (n : Int) := by omega
      obtain ⟨⟨m1, s1⟩, x1⟩ : ∃ x, t1[i]? = some x := ⟨t1[i]'(by rw [hn.out]; exact hlt), List.getElem?_eq_getElem _⟩
      obtain ⟨⟨m2, s2⟩, x2⟩ : ∃ x, t2[i]? = some x := ⟨t2[i]'(by have := congrArg List.length he; simp at this; rw [← this, hn.out]; exact hlt), List.getElem?_eq_getElem _⟩
      obtain rfl : s1 = s2 := by
        have := congrArg (·[i]?) he
        simpa [x1, x2] using this
      obtain ⟨g1, o1, rfl, d1, b1⟩ := c1 i _ x1
      obtain ⟨g2, o2, rfl, d2, b2⟩ := c2 i _ x2
      simp only at d1 b1 d2 b2
      obtain ⟨q1, u1, r1⟩ := b1.slice
      obtain ⟨q2, u2, r2⟩ := b2.slice
      subst r1
      subst r2
      have D1 : ∀ W, Turn no wr W → W.cell? ⟨g1, o1 + i, none⟩ = some (.slice q1 s1.length u1) := fun W t => (T.then_no t).keep d1 (fun q => q)
      have D2 : ∀ W, Turn no wr W → W.cell? ⟨g2, o2 + i, none⟩ = some (.slice q2 s1.length u2) := fun W t => (T.then_no t).keep d2 (fun q => q)
      have C : ∀ W, Turn no wr W → Calls Tryd.prog 19 #[.slice q1 s1.length u1, .slice q2 s1.length u2] W fun e w' => e = .returned (.bool (s1 == s1)) ∧ ∃ n, w' = W.drewN n := fun W t => same_any W _ _ s1 s1 (b1.turn_no (T.then_no t)) (b2.turn_no (T.then_no t))
      rw [show (s1 == s1) = true by simp] at C
      clear c1 c2 he x1 x2 d1 d2 b1 b2
      go_wp2_with fail
      refine wp_region_held_drew (S := fun W => Turn no wr W) (by kernel_rfl) (Turn.refl no wr).drew (fun hHeld => ?_)
      refine' wpAnyH_take (i := 0) (v := .slice (some ⟨g1, o1, none⟩) n p1) rfl (by kernel_rfl) (by kernel_rfl) (by kernel_rfl) (fun _ _ _ h => h) (Or.inl ⟨by kernel_rfl, fun W hW => ?y1⟩) hHeld ?r1
      · go_simp
      refine' wpAnyH_take (i := 1) (v := .int .i64 i) rfl (by kernel_rfl) (by kernel_rfl) (by kernel_rfl) (fun _ _ _ h => h) (Or.inl ⟨by kernel_rfl, fun W hW => ?y2⟩) hHeld ?r2
      · go_simp
      refine' wpAnyH_take (i := 2) (v := .pointer (some ⟨g1, o1 + i, none⟩)) rfl (by kernel_rfl) (by kernel_rfl) (by kernel_rfl) (fun _ _ _ h => h) (Or.inl ⟨by kernel_rfl, fun W hW => ?y3⟩) hHeld ?r3
      · go_simp
      refine' wpAnyH_take (i := 3) (v := .slice q1 s1.length u1) rfl (by kernel_rfl) (by kernel_rfl) (by kernel_rfl) (fun _ _ _ h => h) (Or.inl ⟨by kernel_rfl, fun W hW => ?y4⟩) hHeld ?r4
      · have c := D1 W hW
        go_simp
      refine' wpAnyH_take (i := 4) (v := .slice (some ⟨g2, o2, none⟩) n p2) rfl (by kernel_rfl) (by kernel_rfl) (by kernel_rfl) (fun _ _ _ h => h) (Or.inl ⟨by kernel_rfl, fun W hW => ?y5⟩) hHeld ?r5
      · go_simp
      refine' wpAnyH_take (i := 5) (v := .int .i64 i) rfl (by kernel_rfl) (by kernel_rfl) (by kernel_rfl) (fun _ _ _ h => h) (Or.inl ⟨by kernel_rfl, fun W hW => ?y6⟩) hHeld ?r6
      · go_simp
      refine' wpAnyH_take (i := 6) (v := .pointer (some ⟨g2, o2 + i, none⟩)) rfl (by kernel_rfl) (by kernel_rfl) (by kernel_rfl) (fun _ _ _ h => h) (Or.inl ⟨by kernel_rfl, fun W hW => ?y7⟩) hHeld ?r7
      · go_simp
      refine' wpAnyH_take (i := 7) (v := .slice q2 s1.length u2) rfl (by kernel_rfl) (by kernel_rfl) (by kernel_rfl) (fun _ _ _ h => h) (Or.inl ⟨by kernel_rfl, fun W hW => ?y8⟩) hHeld ?r8
      · have c := D2 W hW
        go_simp
      refine wpAnyH_ready (rs := [8]) (by kernel_rfl) (by simp) ?_
      refine AllReadyH.cons rfl (fun K hK => ?_) AllReadyH.nil
      go_simp
      refine (C _ hHeld).mono ?_
      rintro e w1 ⟨rfl, m, rfl⟩
      have hHeld2 := hHeld.drewN m
      generalize World.drewN _ m = w3 at hHeld2 ⊢
      clear hHeld
      refine hK.out _ _ hHeld2 (fun hHeld => ?_)
      clear hK
      refine wpAnyH_ready (rs := [9]) (by kernel_rfl) (by simp) ?_
      refine AllReadyH.cons rfl (fun K hK => ?_) AllReadyH.nil
      go_simp
      refine hK.out _ _ hHeld (fun hHeld => ?_)
      clear hK
      refine wpAnyH_done (by kernel_rfl) ?_ _
      have T2 := T.then_no hHeld
      clear D1 D2 T hHeld C hHeld2
      go_wp2_with fail
      go_roundw
      case rel => exact ⟨i + 1, by omega, by go_num, T2⟩
      case measure => simp [intOf]; omega
    · have hin : i = n := by omega
      have hlt' : ¬ (i : Int) < (n : Int) := by omega
      go_wp2_with fail
      go_ret
      exact ⟨rfl, T⟩

end Go.Proofs.YtbkbecjgphjpkabDoor
