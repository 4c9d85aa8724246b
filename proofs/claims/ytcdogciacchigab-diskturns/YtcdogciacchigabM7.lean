/- What the closures of Replace and Cut do. -/
import Derived.Test.YtcdogciacchigabM6
namespace Go.Proofs.Ytcdogciacchigab
open Go.RowKit Go.Maps
set_option linter.unusedVariables false
section
variable {w : World} {p : Nat} {K : Nat → Prop} {bf bt : Option Nat} {V : Nm → Value} {s : St}

theorem Dp.kbf (h : Dp w p K bf bt V s) : ∀ k, bf = some k → K k := fun k q => by
  rcases h.files with ⟨_, e2⟩ | ⟨_, b, D, e2, kb, o, _⟩
  · rw [e2] at q; cases q
  · rw [e2] at q; cases q; exact kb
theorem Dp.kbt (h : Dp w p K bf bt V s) : ∀ k, bt = some k → K k := fun k q => by
  rcases h.troubles with ⟨_, e2⟩ | ⟨_, b, D, e2, kb, o, _⟩
  · rw [e2] at q; cases q
  · rw [e2] at q; cases q; exact kb
/-- put of bytes that were copied, as a closure does it. -/
theorem put_new {W : World} (hD : Dp W p K bf bt V (counted s)) (hoff : s.off = false) (hout : s.out = false) (nm : Nm) (b : List UInt8) (v' : Value) (hv : Own W 5 v' (b.map bv)) (hnew : ∀ g, v'.ownBlock = some g → ¬ K g)
    (hi : Inv { s with fs := putF ⟨nm, b, b.length⟩ s.fs }) : Calls Try.prog 48 #[ptr p, strV nm, fileV v' b.length] W fun e w' => e = .returned (.tuple #[]) ∧
      Dp w' p (fun k => K k ∨ v'.ownBlock = some k) bf bt (setV V nm v') { counted s with fs := putF ⟨nm, b, b.length⟩ s.fs } ∧ Turn (fun k => k = p ∨ bf = some k) W w' :=
  put36 hD hout ⟨nm, b, b.length⟩ v' hv ⟨hi.sorted, hi.names, hi.sy, hi.used, hi.lim, hi.count, hD.inv.arms, hi.out⟩ (fun g hg => ⟨fun e => hnew g hg (e ▸ hD.kp), fun f' hf' _ e => hnew g hg (hD.owned f' hf' g e)⟩)

set_option maxRecDepth 100000 in
set_option maxHeartbeats 4000000 in
theorem does54 (B a0 a1 a2 : Nat) (hB : B ≤ w.heap.size) (h : Dp w p K bf bt V s) (hoff : s.off = false) (nm : Nm) (v : Value) (b : List UInt8) (hb : Bs w v b) (hbl : b.length ≤ 140737488355328) (hvK : b ≠ [] → ∀ g, v.ownBlock = some g → ¬ K g)
    (r0 : Row w a0 #[ptr p] 34) (r1 : Row w a1 #[strV nm] 9) (r2 : Row w a2 #[v] 28)
    (hi : Inv { s with fs := putF ⟨nm, b, b.length⟩ s.fs }) :
    Does B w p K bf bt V s (putF ⟨nm, b, b.length⟩ s.fs) 54 #[ptr a0, ptr a1, ptr a2] := by
  intro W hD T
  have hnp : ∀ {g cs e}, Row w g cs e → e ≠ 82 → ¬ (g = p ∨ bt = some g) := fun r he q => by
    obtain ⟨h1, h2, _⟩ := h.noBox r he
    rcases q with q | q
    · exact h1 q
    · exact h2 q
  have hnp' : ∀ {g cs e}, Row w g cs e → e ≠ 82 → ¬ (g = p ∨ bf = some g) := fun r he q => by
    obtain ⟨h1, _, h2⟩ := h.noBox r he
    rcases q with q | q
    · exact h1 q
    · exact h2 q
  have q0 := r0.turn T (hnp r0 (by decide))
  have q1 := r1.turn T (hnp r1 (by decide))
  have q2 := r2.turn T (hnp r2 (by decide))
  have hbW : Bs W v b := hb.late T (fun hne g hg q => by
    refine hvK hne g hg ?_
    rcases q with q | q
    · rw [q]; exact h.kp
    · exact h.kbt g q)
  have hkp := h.kp
  have hkb := h.kbf
  have hsf := syncedFile49 W.drew v b (hbW.turn_no (Turn.refl no W).drew) hbl
  have cc : ∀ W', Turn (fun k => k = p ∨ bf = some k) W W' → W'.cell? ⟨a0, 0, none⟩ = some (ptr p) ∧ W'.cell? ⟨a1, 0, none⟩ = some (strV nm) ∧ W'.cell? ⟨a2, 0, none⟩ = some v := fun W' t => ⟨(q0.turn t (hnp' r0 (by decide))).cell 0 _ rfl, (q1.turn t (hnp' r1 (by decide))).cell 0 _ rfl, (q2.turn t (hnp' r2 (by decide))).cell 0 _ rfl⟩
  have hput : ∀ W' v', Turn no W.drew W' → Own W' 5 v' (b.map bv) → v'.ownBlock = some (W.drew.heap.size + 1) → _ := fun W' v' t hv hg => put_new (hD.turn ((Turn.refl no W).drew.then_no t) (fun _ _ q => q)) hoff (h.inv.out hoff) nm b v' hv (fun g hg' q => by
    rw [hg] at hg'
    cases hg'
    have := hD.klt _ q
    simp at this; omega) hi
  have hBW := T.size
  obtain ⟨va, vc, hvs⟩ := hb.slice
  clear h hD r0 r1 r2 hnp hnp' T hi q0 q1 q2 hb hbW
  subst hvs
  unfold fileV ptr strV at *
  go_enter Try.func54, Try.ntmps54
  go_wp2_with fail
  refine wp_region_noPanic ?_
  refine wp_region_held_drew (S := fun W' => Turn (fun k => k = p ∨ bf = some k) W W') (by kernel_rfl) (Turn.refl _ W).drew (fun hHeld => ?_)
  refine' wpAnyH_take (i := 0) (v := .pointer (some ⟨p, 0, none⟩)) rfl (by kernel_rfl) (by kernel_rfl) (by kernel_rfl) (fun _ _ _ h => h) (Or.inl ⟨by kernel_rfl, fun W hW => ?y1⟩) hHeld ?r1
  · have c := (cc _ hW).1
    go_simp
  refine' wpAnyH_take (i := 1) (v := .string ⟨nm.toArray⟩) rfl (by kernel_rfl) (by kernel_rfl) (by kernel_rfl) (fun _ _ _ h => h) (Or.inl ⟨by kernel_rfl, fun W hW => ?y2⟩) hHeld ?r2
  · have c := (cc _ hW).2.1
    go_simp
  refine' wpAnyH_take (i := 2) (v := .slice va b.length vc) rfl (by kernel_rfl) (by kernel_rfl) (by kernel_rfl) (fun _ _ _ h => h) (Or.inl ⟨by kernel_rfl, fun W hW => ?y3⟩) hHeld ?r3
  · have c := (cc _ hW).2.2
    go_simp
  refine wpAnyH_ready (rs := [3]) (by kernel_rfl) (by simp) ?_
  refine AllReadyH.cons rfl (fun K hK => ?_) AllReadyH.nil
  go_simp
  refine hsf.mono ?_
  rintro e w1 ⟨v', rfl, hO, hBl, T1⟩
  have hpt := hput w1 v' T1 hO hBl
  have hw1 := T1.size
  obtain ⟨xa, xn, xc, rfl⟩ := hO.slice
  have T1' : Turn no W w1 := (Turn.refl no W).drew.then_no T1
  go_wp2_with fail
  refine hK.out _ _ T1'.of_no (fun hHeld => ?_)
  clear hK
  refine wpAnyH_ready (rs := [4]) (by kernel_rfl) (by simp) ?_
  refine AllReadyH.cons rfl (fun K hK => ?_) AllReadyH.nil
  go_simp
  refine hpt.mono ?_
  rintro e w2 ⟨rfl, hD2, T2⟩
  have T2' : Turn (fun k => k = p ∨ bf = some k) W w2 := (T1'.of_no).trans T2 (fun _ _ q => q)
  go_wp2_with fail
  refine hK.out _ _ T2' (fun hHeld => ?_)
  clear hK
  refine wpAnyH_done (by kernel_rfl) ?_ _
  refine NoPanic.normal ?_
  go_wp2_with fail
  refine ⟨rfl, _, results_none rfl _ _ _, rfl, _, _, hD2, fun k q => ?_, T2'.mono (fun k _ q => ?_)⟩
  · rcases q with q | q
    · exact Or.inl q
    · rw [hBl] at q
      cases q
      exact Or.inr (by show B ≤ W.heap.size + 1; omega)
  · rcases q with q | q
    · rw [q]; exact Or.inl hkp
    · exact Or.inl (hkb k q)

set_option maxRecDepth 100000 in
set_option maxHeartbeats 4000000 in
theorem does55 (B a0 a1 a2 a3 : Nat) (hB : B ≤ w.heap.size) (h : Dp w p K bf bt V s) (hoff : s.off = false) (nm : Nm) (f : Pf) (hf : getF nm s.fs = some f) (n : Nat) (hn : n ≤ f.bs.length)
    (r0 : Row w a0 #[ptr p] 34) (r1 : Row w a1 #[strV nm] 9) (r2 : Row w a2 #[V nm, .int .i64 f.sy] 97) (r3 : Row w a3 #[.int .i64 n] 3)
    (hi : Inv { s with fs := putF ⟨nm, f.bs.take n, n⟩ s.fs }) :
    Does B w p K bf bt V s (putF ⟨nm, f.bs.take n, n⟩ s.fs) 75 #[ptr a0, ptr a1, ptr a2, ptr a3] := by
  intro W hD T
  have hnp : ∀ {g cs e}, Row w g cs e → e ≠ 82 → ¬ (g = p ∨ bt = some g) := fun r he q => by
    obtain ⟨h1, h2, _⟩ := h.noBox r he
    rcases q with q | q
    · exact h1 q
    · exact h2 q
  have hnp' : ∀ {g cs e}, Row w g cs e → e ≠ 82 → ¬ (g = p ∨ bf = some g) := fun r he q => by
    obtain ⟨h1, _, h2⟩ := h.noBox r he
    rcases q with q | q
    · exact h1 q
    · exact h2 q
  have htl : (f.bs.take n).length = n := by rw [List.length_take]; omega
  obtain ⟨hf1, hf2⟩ := getF_mem hf
  have q0 := r0.turn T (hnp r0 (by decide))
  have q1 := r1.turn T (hnp r1 (by decide))
  have q2 := r2.turn T (hnp r2 (by decide))
  have q3 := r3.turn T (hnp r3 (by decide))
  have hov : Own W 5 (V nm) (f.bs.map bv) := by
    have := hD.bytes f hf1
    rw [hf2] at this
    exact this
  have hused : f.bs.length ≤ 1073741824 := by
    have h1 := lenF_le nm s.fs
    have h2 := h.inv.used
    have h3 := h.inv.lim
    have : lenF nm s.fs = f.bs.length := by simp [lenF, hf]
    omega
  obtain ⟨oa, on, oc, hsl, hon, hoc, hpre⟩ : ∃ a m c, V nm = .slice a m c ∧ m = f.bs.length ∧ m ≤ c ∧ Bs W (.slice a n c) (f.bs.take n) := by
    rcases hov.shape with ⟨e, q⟩ | ⟨g, cap, cur, e, hg, hc, hcm, _⟩
    · have hnil := List.map_eq_nil_iff.1 q
      rw [hnil] at hn
      simp at hn
      subst hn
      exact ⟨none, 0, 0, e, by simp [hnil], Nat.le_refl _, Or.inl ⟨rfl, by simp⟩⟩
    · simp only [List.length_map] at hc
      refine ⟨_, _, _, e, by simp, by simpa using hc, Or.inr ⟨⟨g, 0, none⟩, cap, by rw [htl], by rw [htl]; omega, hcm, fun j u hu => ?_⟩⟩
      rw [List.getElem?_take] at hu
      split at hu
      · rw [e] at hov
        have := hov.cell j (bv u) (by simp [hu])
        rw [Addr.add_lit]
        simpa using this
      · cases hu
  subst hon
  have hkp := h.kp
  have hkb := h.kbf
  have hsf := syncedFile49 W.drew _ _ (hpre.turn_no (Turn.refl no W).drew) (by rw [htl]; omega)
  rw [htl] at hsf
  rw [hsl] at q2
  have cc : ∀ W', Turn (fun k => k = p ∨ bf = some k) W W' → W'.cell? ⟨a0, 0, none⟩ = some (ptr p) ∧ W'.cell? ⟨a1, 0, none⟩ = some (strV nm) ∧ W'.cell? ⟨a2, 0, none⟩ = some (.slice oa f.bs.length oc) ∧ W'.cell? ⟨a3, 0, none⟩ = some (.int .i64 n) := fun W' t => ⟨(q0.turn t (hnp' r0 (by decide))).cell 0 _ rfl, (q1.turn t (hnp' r1 (by decide))).cell 0 _ rfl, (q2.turn t (hnp' r2 (by decide))).cell 0 _ rfl, (q3.turn t (hnp' r3 (by decide))).cell 0 _ rfl⟩
  have hput : ∀ W' v', Turn no W.drew W' → Own W' 5 v' ((f.bs.take n).map bv) → v'.ownBlock = some (W.drew.heap.size + 1) → _ := fun W' v' t hv hg => put_new (hD.turn ((Turn.refl no W).drew.then_no t) (fun _ _ q => q)) hoff (h.inv.out hoff) nm (f.bs.take n) v' hv (fun g hg' q => by
    rw [hg] at hg'
    cases hg'
    have := hD.klt _ q
    simp at this; omega) (by rw [htl]; exact hi)
  rw [htl] at hput
  have hBW := T.size
  have i0 : (0 : Int) ≤ (n : Int) := by omega
  have i1 : (n : Int) ≤ (oc : Int) := by omega
  have i2 : n ≤ oc := by omega
  clear h hD r0 r1 r2 r3 hnp hnp' T hi q0 q1 q2 q3 hov hpre hsl
  unfold fileV ptr strV at *
  go_enter Try.func75, Try.ntmps75
  go_wp2_with fail
  refine wp_region_noPanic ?_
  refine wp_region_held_drew (S := fun W' => Turn (fun k => k = p ∨ bf = some k) W W') (by kernel_rfl) (Turn.refl _ W).drew (fun hHeld => ?_)
  refine' wpAnyH_take (i := 0) (v := .pointer (some ⟨p, 0, none⟩)) rfl (by kernel_rfl) (by kernel_rfl) (by kernel_rfl) (fun _ _ _ h => h) (Or.inl ⟨by kernel_rfl, fun W hW => ?y4⟩) hHeld ?r4
  · have c := (cc _ hW).1
    go_simp
  refine' wpAnyH_take (i := 1) (v := .string ⟨nm.toArray⟩) rfl (by kernel_rfl) (by kernel_rfl) (by kernel_rfl) (fun _ _ _ h => h) (Or.inl ⟨by kernel_rfl, fun W hW => ?y5⟩) hHeld ?r5
  · have c := (cc _ hW).2.1
    go_simp
  refine' wpAnyH_take (i := 2) (v := .pointer (some ⟨a2, 0, none⟩)) rfl (by kernel_rfl) (by kernel_rfl) (by kernel_rfl) (fun _ _ _ h => h) (Or.inl ⟨by kernel_rfl, fun W hW => ?y6⟩) hHeld ?r6
  · go_simp
  refine' wpAnyH_take (i := 3) (v := .slice oa f.bs.length oc) rfl (by kernel_rfl) (by kernel_rfl) (by kernel_rfl) (fun _ _ _ h => h) (Or.inl ⟨by kernel_rfl, fun W hW => ?y7⟩) hHeld ?r7
  · have c := (cc _ hW).2.2.1
    go_simp
  refine' wpAnyH_take (i := 4) (v := .int .i64 n) rfl (by kernel_rfl) (by kernel_rfl) (by kernel_rfl) (fun _ _ _ h => h) (Or.inl ⟨by kernel_rfl, fun W hW => ?y8⟩) hHeld ?r8
  · have c := (cc _ hW).2.2.2
    go_simp
  refine' wpAnyH_take (i := 5) (v := .slice oa n oc) rfl (by kernel_rfl) (by kernel_rfl) (by kernel_rfl) (fun _ _ _ h => h) (Or.inl ⟨by kernel_rfl, fun W hW => ?y9⟩) hHeld ?r9
  · go_simp
  refine wpAnyH_ready (rs := [6]) (by kernel_rfl) (by simp) ?_
  refine AllReadyH.cons rfl (fun K hK => ?_) AllReadyH.nil
  go_simp
  refine hsf.mono ?_
  rintro e w1 ⟨v', rfl, hO, hBl, T1⟩
  have hpt := hput w1 v' T1 hO hBl
  have hw1 := T1.size
  obtain ⟨xa, xn, xc, rfl⟩ := hO.slice
  have T1' : Turn no W w1 := (Turn.refl no W).drew.then_no T1
  go_wp2_with fail
  refine hK.out _ _ T1'.of_no (fun hHeld => ?_)
  clear hK
  refine wpAnyH_ready (rs := [7]) (by kernel_rfl) (by simp) ?_
  refine AllReadyH.cons rfl (fun K hK => ?_) AllReadyH.nil
  go_simp
  refine hpt.mono ?_
  rintro e w2 ⟨rfl, hD2, T2⟩
  have T2' : Turn (fun k => k = p ∨ bf = some k) W w2 := (T1'.of_no).trans T2 (fun _ _ q => q)
  go_wp2_with fail
  refine hK.out _ _ T2' (fun hHeld => ?_)
  clear hK
  refine wpAnyH_done (by kernel_rfl) ?_ _
  refine NoPanic.normal ?_
  go_wp2_with fail
  refine ⟨rfl, _, results_none rfl _ _ _, rfl, _, _, hD2, fun k q => ?_, T2'.mono (fun k _ q => ?_)⟩
  · rcases q with q | q
    · exact Or.inl q
    · rw [hBl] at q
      cases q
      exact Or.inr (by show B ≤ W.heap.size + 1; omega)
  · rcases q with q | q
    · rw [q]; exact Or.inl hkp
    · exact Or.inl (hkb k q)
end
end Go.Proofs.Ytcdogciacchigab
