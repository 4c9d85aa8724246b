/- DiskNil: the walk. -/
import Derived.Test.YtcdogciacchigaaN1
namespace Go.Proofs.Ytcdogciacchigaa
open Go.RowKit Go.Maps
set_option linter.unusedVariables false
section
variable {w : World} {v : Value}

theorem Ox.kind {B : Nat} {w : World} {o : Opx} (h : Ox B w o) (k : Int) : Ox B w { o with kind := k } := ⟨h.nm, h.data, h.keep, h.dold, h.kold⟩
theorem opC_set (o : Opx) (k : Int) : (opC o).setIfInBounds 0 (.int .i64 k) = opC { o with kind := k } := rfl

set_option maxRecDepth 100000 in
set_option maxHeartbeats 4000000 in
theorem nothing16 (h : No w v) {B : Nat} (o : Opx) (ho : Ox B w o) : Calls Try.prog 16 #[v, .agg (opC o)] w fun e w' => e = .returned (.bool true) ∧ Turn no w w' := by
  have T1 : Turn no w (w.alloc (.cells (opC o) 44)) := (Turn.refl no w).alloc _
  have r0 : Row (w.alloc (.cells (opC o) 44)) w.heap.size (opC o) 44 := Row.new w _ 44
  obtain ⟨pa, hpa⟩ := h.form
  obtain ⟨va, vn, vc, hvs⟩ : ∃ ka kn kc, o.vd = .slice ka kn kc := by
    obtain ⟨a, c, e⟩ := ho.data.slice
    exact ⟨_, _, _, e⟩
  obtain ⟨ka, kn, kc, hks⟩ : ∃ ka kn kc, o.vk = .slice ka kn kc := by
    obtain ⟨a, c, e⟩ := ho.keep.slice
    exact ⟨_, _, _, e⟩
  have hd := fun W (t : Turn no w W) (k : Nat) hk => does18_no (h.turn t) { o with kind := k } ((ho.turn_no t).kind k) k hk rfl
  have hr := fun W (t : Turn no w W) => read20_no (h.turn t) o.nm
  have hs := fun W (t : Turn no w W) => size40_no (h.turn t) o.nm
  have hc := fun W (t : Turn no w W) => crash15_no (h.turn t) ka kn kc o.junk.toNat
  have ha := fun W (t : Turn no w W) => arm11_no (h.turn t) o.t
  have hN := fun W (t : Turn no w W) => names29_no (h.turn t)
  have hC := fun W (t : Turn no w W) => calls14_no (h.turn t)
  have hO := fun W (t : Turn no w W) => on13_no (h.turn t)
  have hn1 := fun W => num10 W 1
  obtain ⟨kind, who, nm, vd, data, n, t, vk, keep, junk⟩ := o
  simp only at hvs hks
  subst hvs hks hpa
  simp only at *
  clear ho h
  unfold opC strV trV at *
  simp only at *
  obtain ⟨g, hg⟩ : ∃ g, g = w.heap.size := ⟨_, rfl⟩
  rw [← hg] at r0
  go_enter Try.func16, Try.ntmps16
  go_wp2_with fail
  rw [← hg]
  have HG : Hid (g = w.heap.size) := hg
  clear hg
  generalize w.alloc (.cells #[.int .i64 kind, .int .i64 who, .string ⟨nm.toArray⟩, .slice va vn vc, .int .i64 n, .int .i64 t.when, .int .i64 t.kind, .bool t.done, .slice ka kn kc, .int .u8 junk.toNat] 44) = w0 at *
  go_loopw [5] (fun x wr => ∃ (k : Nat) (kd : Int), 1 ≤ k ∧ k ≤ 6 ∧ x = .int .i64 k ∧ Row wr g #[.int .i64 kd, .int .i64 who, .string ⟨nm.toArray⟩, .slice va vn vc, .int .i64 n, .int .i64 t.when, .int .i64 t.kind, .bool t.done, .slice ka kn kc, .int .u8 junk.toNat] 44 ∧ Turn no w wr) (fun x _ => 6 - (intOf x).toNat)
  case atStart => exact ⟨1, kind, by omega, by omega, rfl, r0, T1⟩
  case round =>
    obtain ⟨k, kd, hk1, hk6, rfl, R, T⟩ := hrel
    by_cases hk5 : k ≤ 5
    · have i5 : (k : Int) ≤ 5 := by omega
      have c0 := R.cell 0 _ rfl
      have f0 := R.frozen 0
      have R' := R.set 0 (.int .i64 k)
      have T' : Turn no w (wr.setCell ⟨g, 0, none⟩ (.int .i64 k)) := T.setCell (p := ⟨g, 0, none⟩) (fun q => by have := HG.out; simp at q; omega) _
      have d0 := R'.cell 0 _ rfl
      have d1 := R'.cell 1 _ rfl
      have d2 := R'.cell 2 _ rfl
      have d3 := R'.cell 3 _ rfl
      have d4 := R'.cell 4 _ rfl
      have d5 := R'.cell 5 _ rfl
      have d6 := R'.cell 6 _ rfl
      have d7 := R'.cell 7 _ rfl
      have d8 := R'.cell 8 _ rfl
      have d9 := R'.cell 9 _ rfl
      have hdd := hd _ T' k ⟨hk1, hk5⟩
      clear hd hr hs hc ha hN hC hO r0
      generalize hw1 : wr.setCell ⟨g, 0, none⟩ (.int .i64 k) = w1 at *
      go_wp2_with fail
      refine hdd.mono ?_
      rintro e w2 ⟨rfl, t2⟩
      have hn2 := hn1 w2
      go_wp2_with fail
      refine hn2.mono ?_
      rintro e w2' ⟨rfl, rfl⟩
      go_wp2_with fail
      go_roundw
      case rel => exact ⟨k + 1, k, by omega, by omega, by go_num, R'.turn t2 (fun q => q), T'.then_no t2⟩
      case measure => simp [intOf]; omega
    · have i5 : ¬ (k : Int) ≤ 5 := by omega
      have cc : ∀ W, Turn no wr W → W.cell? ⟨g, 2, none⟩ = some (.string ⟨nm.toArray⟩) ∧ W.cell? ⟨g, 8, none⟩ = some (.slice ka kn kc) ∧ W.cell? ⟨g, 9, none⟩ = some (.int .u8 junk.toNat) ∧ W.cell? ⟨g, 5, none⟩ = some (.int .i64 t.when) ∧ W.cell? ⟨g, 6, none⟩ = some (.int .i64 t.kind) ∧ W.cell? ⟨g, 7, none⟩ = some (.bool t.done) := fun W x => ⟨(R.turn x (fun q => q)).cell 2 _ rfl, (R.turn x (fun q => q)).cell 8 _ rfl, (R.turn x (fun q => q)).cell 9 _ rfl, (R.turn x (fun q => q)).cell 5 _ rfl, (R.turn x (fun q => q)).cell 6 _ rfl, (R.turn x (fun q => q)).cell 7 _ rfl⟩
      obtain ⟨b2, b8, b9, b5, b6, b7⟩ := cc _ (Turn.refl no wr)
      have h1 := hr _ T
      clear hd r0
      go_wp2_with fail
      refine h1.mono ?_
      rintro e w1 ⟨rfl, t1⟩
      obtain ⟨b2, b8, b9, b5, b6, b7⟩ := cc _ t1
      have h2 := hs _ (T.then_no t1)
      go_wp2_with fail
      refine h2.mono ?_
      rintro e w2 ⟨rfl, t2⟩
      have t2' := t1.then_no t2
      obtain ⟨b2, b8, b9, b5, b6, b7⟩ := cc _ t2'
      have h3 := hc _ (T.then_no t2')
      go_wp2_with fail
      refine h3.mono ?_
      rintro e w3 ⟨rfl, t3⟩
      have t3' := (t2'.then_no t3).alloc (.cells #[.slice none 0 0] 36)
      obtain ⟨b2, b8, b9, b5, b6, b7⟩ := cc _ t3'
      have h4 := ha _ (T.then_no t3')
      have RI : Row (w3.alloc (.cells #[.slice none 0 0] 36)) w3.heap.size #[.slice none 0 0] 36 := Row.new w3 _ 36
      have hnn := hn1 (w3.alloc (.cells #[.slice none 0 0] 36))
      go_wp2_with fail
      generalize hgi : w3.heap.size = gi at *
      generalize w3.alloc (.cells #[.slice none 0 0] 36) = w4 at *
      refine hnn.mono ?_
      rintro e w' ⟨rfl, rfl⟩
      go_wp2_with fail
      refine hnn.mono ?_
      rintro e w'' ⟨rfl, rfl⟩
      go_wp2_with fail
      refine hnn.mono ?_
      rintro e w''' ⟨rfl, rfl⟩
      go_wp2_with fail
      refine h4.mono ?_
      rintro e w5 ⟨rfl, t5⟩
      have hn5 := hn1 w5
      go_wp2_with fail
      refine hn5.mono ?_
      rintro e w5' ⟨rfl, rfl⟩
      have T5 := T.then_no (t3'.then_no t5)
      have h5 := hN _ T5
      have h6 := hC _ T5
      have h7 := hO _ T5
      have ci := (RI.turn t5 (fun q => q)).cell 0 _ rfl
      go_wp2_with fail
      refine h5.mono ?_
      rintro e w6 ⟨rfl, rfl⟩
      go_wp2_with fail
      refine h6.mono ?_
      rintro e w6 ⟨rfl, rfl⟩
      go_wp2_with fail
      refine h7.mono ?_
      rintro e w6 ⟨rfl, rfl⟩
      go_wp2_with fail
      go_ret
      exact ⟨rfl, T5⟩

set_option maxRecDepth 100000 in
set_option maxHeartbeats 4000000 in
theorem nil_any (w : World) {B : Nat} (o : Opx) (ho : Ox B w o) (lim : Int) : Calls Try.prog 4 #[.agg (opC o), .int .i64 lim] w fun e w' => e = .returned (.bool true) ∧ Turn no w w' := by
  have T1 : Turn no w (w.alloc (.cells (opC o) 44)) := (Turn.refl no w).alloc _
  have r0 : Row (w.alloc (.cells (opC o) 44)) w.heap.size (opC o) 44 := Row.new w _ 44
  obtain ⟨va, vn, vc, hvs⟩ : ∃ ka kn kc, o.vd = .slice ka kn kc := by
    obtain ⟨a, c, e⟩ := ho.data.slice
    exact ⟨_, _, _, e⟩
  obtain ⟨ka, kn, kc, hks⟩ : ∃ ka kn kc, o.vk = .slice ka kn kc := by
    obtain ⟨a, c, e⟩ := ho.keep.slice
    exact ⟨_, _, _, e⟩
  have hz : ∀ W u, Turn no w W → No W u → _ := fun W u t hu => nothing16 hu o (ho.turn_no t)
  have hnum := num10
  obtain ⟨kind, who, nm, vd, data, n, t, vk, keep, junk⟩ := o
  simp only at hvs hks
  subst hvs hks
  clear ho
  unfold opC strV at *
  simp only at *
  have cc := fun W (x : Turn no (w.alloc (.cells #[.int .i64 kind, .int .i64 who, .string ⟨nm.toArray⟩, .slice va vn vc, .int .i64 n, .int .i64 t.when, .int .i64 t.kind, .bool t.done, .slice ka kn kc, .int .u8 junk.toNat] 44)) W) => r0.turn x (fun q => q)
  have h1 := hz _ (.pointer none) T1 (Or.inl rfl)
  go_enter Try.func4, Try.ntmps4
  have RR := cc _ (Turn.refl no _)
  have d0 := RR.cell 0 _ rfl
  have d1 := RR.cell 1 _ rfl
  have d2 := RR.cell 2 _ rfl
  have d3 := RR.cell 3 _ rfl
  have d4 := RR.cell 4 _ rfl
  have d5 := RR.cell 5 _ rfl
  have d6 := RR.cell 6 _ rfl
  have d7 := RR.cell 7 _ rfl
  have d8 := RR.cell 8 _ rfl
  have d9 := RR.cell 9 _ rfl
  generalize hw0 : w.alloc (.cells #[.int .i64 kind, .int .i64 who, .string ⟨nm.toArray⟩, .slice va vn vc, .int .i64 n, .int .i64 t.when, .int .i64 t.kind, .bool t.done, .slice ka kn kc, .int .u8 junk.toNat] 44) = w0 at *
  go_wp2_with fail
  refine h1.mono ?_
  rintro e w1 ⟨rfl, t1⟩
  have t2 := t1.alloc (.cells #[.pointer none, .int .i64 0, .map none, .int .i64 0, .int .i64 0, .map none, .bool false, .bool false] 49)
  have R2 := cc _ t2
  have d0 := R2.cell 0 _ rfl
  have d1 := R2.cell 1 _ rfl
  have d2 := R2.cell 2 _ rfl
  have d3 := R2.cell 3 _ rfl
  have d4 := R2.cell 4 _ rfl
  have d5 := R2.cell 5 _ rfl
  have d6 := R2.cell 6 _ rfl
  have d7 := R2.cell 7 _ rfl
  have d8 := R2.cell 8 _ rfl
  have d9 := R2.cell 9 _ rfl
  have T2 := T1.then_no t2
  have h2 := hz _ (.pointer (some ⟨w1.heap.size, 0, none⟩)) T2 (Or.inr ⟨_, rfl, (Row.new w1 _ 49).cell 0 _ rfl⟩)
  clear h1 hz cc RR
  go_wp2_with fail
  refine h2.mono ?_
  rintro e w3 ⟨rfl, t3⟩
  have T3 := T2.then_no t3
  by_cases hlim : lim < 1 ∨ 1073741824 < lim
  · have h3 := new9_no w3 lim hlim
    have hcase : (decide (1 ≤ lim) = false) ∨ (decide (1 ≤ lim) = true ∧ decide (lim ≤ 1073741824) = false) := by
      rcases hlim with q | q
      · left; simpa using q
      · right; exact ⟨by simp; omega, by simpa using q⟩
    clear hlim
    go_wp2_with fail
    refine h3.mono ?_
    rintro e w4 ⟨rfl, rfl⟩
    have hn4 := hnum w4 2
    rcases hcase with q | ⟨q1, q2⟩
    all_goals
      go_wp2_with fail
      refine hn4.mono ?_
      rintro e w5 ⟨rfl, rfl⟩
      go_wp2_with fail
      refine hn4.mono ?_
      rintro e w5' ⟨rfl, rfl⟩
      go_wp2_with fail
      go_ret
      exact ⟨rfl, T3⟩
  · have q1 : decide (1 ≤ lim) = true := by simp; omega
    have q2 : decide (lim ≤ 1073741824) = true := by simp; omega
    obtain ⟨L, hL⟩ : ∃ L : Nat, lim = (L : Int) := ⟨lim.toNat, by omega⟩
    subst hL
    have h3 := new9 w3 L (by omega) (by omega)
    have hap : ∀ W (q : Nat) (K : Nat → Prop), Dk W q K (newSt L) → Calls Try.prog 12 #[ptr q, strV [97], .slice none 0 0] W (Ans W q K ({ newSt L with n := 1, fs := [⟨[97], [], 0⟩] }, 0)) := fun W q K hk => by
      have := append12 hk (by simp [newSt]) [97] (by simp [maxLen]) (.slice none 0 0) [] (Or.inl ⟨rfl, rfl⟩) (fun hne => (hne rfl).elim)
      have e : appS (newSt L) [97] [] = ({ newSt L with n := 1, fs := [⟨[97], [], 0⟩] }, 0) := by
        have ha : asked (newSt L) [97] = 0 := by
          have : isNm [97] = true := by decide
          simp [asked, newSt, this]
        have hf : fitsB (newSt L) [97] (([] : List UInt8).length : Int) = true := by simp [fitsB, newSt, usedF, getF]
        unfold appS
        rw [if_neg (by rw [ha]; simp), if_neg (by rw [hf]; simp)]
        simp [numb, newSt, armAt, appL, putF, fileOf, getF]
      rw [e] at this
      exact this
    clear hlim
    go_wp2_with fail
    refine h3.mono ?_
    rintro e w4 ⟨q, K0, rfl, hq, hk, hF, t4⟩
    have T4 := T3.then_no t4
    have hn4 := hnum w4 0
    have hon := on13 hk
    have hap1 := hap _ _ _ hk
    unfold ptr strV at *
    go_wp2_with fail
    refine hn4.mono ?_
    rintro e w5 ⟨rfl, rfl⟩
    go_wp2_with fail
    refine hn4.mono ?_
    rintro e w5' ⟨rfl, rfl⟩
    have hoff : (newSt L).off = false := rfl
    rw [hoff] at hon
    go_wp2_with fail
    refine hon.mono ?_
    rintro e w6 ⟨rfl, rfl⟩
    go_wp2_with fail
    refine hap1.mono ?_
    rintro e w7 ⟨rfl, K', hk7, hF7, T7⟩
    have hn7 := hnum w7 0
    have hc7 := calls14 hk7
    unfold ptr at hc7
    go_wp2_with fail
    refine hn7.mono ?_
    rintro e w8 ⟨rfl, rfl⟩
    go_wp2_with fail
    refine hc7.mono ?_
    rintro e w9 ⟨rfl, rfl⟩
    go_wp2_with fail
    go_ret
    refine ⟨rfl, T4.trans T7 (fun i hi hq => ?_)⟩
    rcases hF i hq with x | x
    · exact x
    · have := T3.size; omega
end
end Go.Proofs.Ytcdogciacchigaa
