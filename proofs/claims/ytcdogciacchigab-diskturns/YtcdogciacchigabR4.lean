/- Of the document's disk: befall. -/
import Derived.Test.YtcdogciacchigabR3
namespace Go.Proofs.Ytcdogciacchigab
open Go.RowKit Go.Maps
set_option linter.unusedVariables false

/-- Is a numbered call done? -/
def doB (s : St) : Bool := match armAt ((s.n : Int) + 1) s.arms with | none => true | some t => if t.kind = 1 then false else t.done
theorem numb_do (s : St) (l : List Pf) : numb s l = (if doB s then { (numb s s.fs).1 with fs := l } else (numb s s.fs).1, (numb s s.fs).2) := by
  unfold numb doB
  cases h : armAt ((s.n : Int) + 1) s.arms with
  | none => simp
  | some t =>
    simp only
    by_cases hk : t.kind = 1
    · simp [hk]
    · cases hd : t.done <;> simp [hk]
theorem numb_fs (s : St) : (numb s s.fs).1.fs = s.fs := by
  unfold numb
  cases h : armAt ((s.n : Int) + 1) s.arms with
  | none => rfl
  | some t =>
    simp only
    split <;> simp
theorem numb_inv {s : St} (h : Inv s) : Inv (numb s s.fs).1 := by
  have ha : ∀ a ∈ s.arms.filter (fun a => decide (a.1 ≠ ((s.n : Int) + 1))), okTr a.2 = true := fun a q => h.arms a (List.mem_filter.1 q).1
  unfold numb
  cases hh : armAt ((s.n : Int) + 1) s.arms with
  | none => exact ⟨h.sorted, h.names, h.sy, h.used, h.lim, h.count, ha, h.out⟩
  | some t =>
    simp only
    split
    · exact ⟨h.sorted, h.names, h.sy, h.used, h.lim, h.count, ha, h.out⟩
    · simp only [ite_self]
      exact ⟨h.sorted, h.names, h.sy, h.used, h.lim, h.count, ha, fun q => by simp at q⟩

section
variable {w : World} {q : Nat} {K : Nat → Prop} {fv av : Value} {s : St}
theorem Rp.keep (h : Rp w q K fv av s) (k : Nat) (x : Value) : Fl K (w.setCell ⟨q, k, none⟩ x) fv s.fs ∧ Al K (w.setCell ⟨q, k, none⟩ x) av s.arms := by
  have T1 : Turn (fun k => k = q) w (w.setCell ⟨q, k, none⟩ x) := Turn.setCell (S := fun k => k = q) (Turn.refl _ _) (p := ⟨q, k, none⟩) (fun _ => rfl) _
  constructor
  · obtain ⟨vs, h1, h2, h3, h4⟩ := h.files
    refine ⟨vs, h1, h2.turn T1 (fun g hg e => ?_), h3, fun j f u hf hu => ?_⟩
    · subst e
      obtain ⟨c, ec⟩ := h2.obj hg
      exact absurd (tag_ne h.row ec) (by decide)
    · obtain ⟨a, b⟩ := h4 j f u hf hu
      refine ⟨a.turn T1 (fun g hg e => ?_), b⟩
      subst e
      obtain ⟨c, ec⟩ := a.obj hg
      exact absurd (tag_ne h.row ec) (by decide)
  · refine ⟨h.arms.1.turn T1 (fun g hg e => ?_), h.arms.2⟩
    subst e
    obtain ⟨c, ec⟩ := h.arms.1.obj hg
    exact absurd (tag_ne h.row ec) (by decide)
theorem setTurn (w : World) (q k : Nat) (x : Value) : Turn (fun k => k = q) w (w.setCell ⟨q, k, none⟩ x) := Turn.setCell (S := fun k => k = q) (Turn.refl _ _) (p := ⟨q, k, none⟩) (fun _ => rfl) _
theorem Rp.setN (h : Rp w q K fv av s) (n : Nat) : Rp (w.setCell ⟨q, 3, none⟩ (.int .i64 n)) q K fv av { s with n := n } :=
  ⟨⟨h.inv.sorted, h.inv.names, h.inv.sy, h.inv.used, h.inv.lim, h.inv.count, h.inv.arms, h.inv.out⟩, h.am, h.row.set 3 _, h.kp, fun k hk => Nat.lt_of_lt_of_le (h.klt k hk) (setTurn w q 3 _).size, (h.keep 3 _).1, (h.keep 3 _).2⟩
theorem Rp.setOff (h : Rp w q K fv av s) : Rp (w.setCell ⟨q, 4, none⟩ (.bool true)) q K fv av { s with off := true } :=
  ⟨⟨h.inv.sorted, h.inv.names, h.inv.sy, h.inv.used, h.inv.lim, h.inv.count, h.inv.arms, fun q => by simp at q⟩, h.am, h.row.set 4 _, h.kp, fun k hk => Nat.lt_of_lt_of_le (h.klt k hk) (setTurn w q 4 _).size, (h.keep 4 _).1, (h.keep 4 _).2⟩
theorem Rp.setOut (h : Rp w q K fv av s) (ho : s.off = true) : Rp (w.setCell ⟨q, 5, none⟩ (.bool true)) q K fv av { s with out := true } :=
  ⟨⟨h.inv.sorted, h.inv.names, h.inv.sy, h.inv.used, h.inv.lim, h.inv.count, h.inv.arms, fun q => by rw [ho] at q; cases q⟩, h.am, h.row.set 5 _, h.kp, fun k hk => Nat.lt_of_lt_of_le (h.klt k hk) (setTurn w q 5 _).size, (h.keep 5 _).1, (h.keep 5 _).2⟩
/-- The list of the troubles is exchanged. -/
theorem Rp.setArms (h : Rp w q K fv av s) {K' : Nat → Prop} (hKK : ∀ k, K k → K' k) (hl : ∀ k, K' k → k < w.heap.size) {v : Value} {l : List (Int × Tr)} (ha : Al K' w v l) (hok : ∀ a ∈ l, okTr a.2 = true) {m : Nat} (hm : l.length ≤ m) :
    Rp (w.setCell ⟨q, 6, none⟩ v) q K' fv v { s with arms := l, m := m } := by
  have T1 := setTurn w q 6 v
  refine ⟨⟨h.inv.sorted, h.inv.names, h.inv.sy, h.inv.used, h.inv.lim, h.inv.count, hok, h.inv.out⟩, hm, h.row.set 6 _, hKK _ h.kp, fun k hk => Nat.lt_of_lt_of_le (hl k hk) T1.size, (h.keep 6 _).1.mono hKK, ha.1.turn T1 (fun g hg e => ?_), ha.2⟩
  subst e
  obtain ⟨c, ec⟩ := ha.1.obj hg
  exact absurd (tag_ne h.row ec) (by decide)
end

/-- The troubles that are left, under way. -/
structure Aw (B b0 : Nat) (w wr : World) (v : Value) (l : List (Int × Tr)) (t : Tr) : Prop where
  al : Al (fun k => B ≤ k ∧ k < wr.heap.size) wr v l
  row : Row wr b0 #[.int .i64 t.when, .int .i64 t.kind, .bool t.done] 30
  turn : Turn (fun k => k = b0) w wr
  at_ : B = w.heap.size
  lt : b0 < B
theorem Aw.then_no {B b0 : Nat} {w wr W : World} {v : Value} {l : List (Int × Tr)} {t : Tr} (h : Aw B b0 w wr v l t) (T : Turn no wr W) : Aw B b0 w W v l t :=
  ⟨(h.al.turn_no T).mono (fun k hk => ⟨hk.1, Nat.lt_of_lt_of_le hk.2 T.size⟩), h.row.turn T (fun q => q), h.turn.then_no T, h.at_, h.lt⟩
theorem Aw.step {B b0 : Nat} {w wr : World} {v : Value} {l : List (Int × Tr)} {t : Tr} (h : Aw B b0 w wr v l t) (hl : (l.length + 1) * 32 ≤ 140737488355328) (a : Int × Tr) :
    ∃ v' w6, (∀ ty, (Builtin.append_ #[91, 91] ty #[v, .slice (some ⟨wr.heap.size, 0, none⟩) 1 1]).run Try.prog (wr.alloc (.cells #[.int .i64 a.1, .int .i64 a.2.when, .int .i64 a.2.kind, .bool a.2.done] 121)) = .ok v' w6) ∧ Aw B b0 w w6 v' (l ++ [a]) t := by
  have ta : Turn no wr (wr.alloc (.cells #[.int .i64 a.1, .int .i64 a.2.when, .int .i64 a.2.kind, .bool a.2.done] 121)) := (Turn.refl no wr).alloc _
  have hS := h.then_no ta
  have hta := ta.size
  have hB := h.at_
  have hsz := hS.turn.size
  obtain ⟨v', w6, hr, hI, hG⟩ := hS.al.push hl a _ (src_am wr a)
  have h6 := hG.turn.size
  have hvB : ∀ g, v.ownBlock = some g → B ≤ g := fun g hg => (h.al.2 g hg).1
  refine ⟨v', w6, hr, ⟨hI.mono (fun k hk => ?_), hS.row.turn hG.turn (fun q => ?_), hS.turn.trans hG.turn (fun k hk q => ?_), hB, h.lt⟩⟩
  · rcases hk with q | q
    · exact ⟨q.1, by omega⟩
    · exact ⟨by omega, q.2⟩
  · have := hvB _ q
    have := h.lt
    omega
  · have := hvB _ q
    omega
theorem Aw.set {B b0 : Nat} {w wr : World} {v : Value} {l : List (Int × Tr)} {t : Tr} (h : Aw B b0 w wr v l t) (t' : Tr) : Aw B b0 w (((wr.setCell ⟨b0, 0, none⟩ (.int .i64 t'.when)).setCell ⟨b0, 1, none⟩ (.int .i64 t'.kind)).setCell ⟨b0, 2, none⟩ (.bool t'.done)) v l t' := by
  have T : Turn (fun k => k = b0) wr (((wr.setCell ⟨b0, 0, none⟩ (.int .i64 t'.when)).setCell ⟨b0, 1, none⟩ (.int .i64 t'.kind)).setCell ⟨b0, 2, none⟩ (.bool t'.done)) := ((setTurn wr b0 0 _).trans (setTurn _ b0 1 _) (fun _ _ q => q)).trans (setTurn _ b0 2 _) (fun _ _ q => q)
  refine ⟨?_, ((h.row.set 0 _).set 1 _).set 2 _, h.turn.trans T (fun _ _ q => q), h.at_, h.lt⟩
  exact (h.al.turn T (fun k hk q => by have := h.lt; omega)).mono (fun k hk => ⟨hk.1, Nat.lt_of_lt_of_le hk.2 T.size⟩)

def ztrT : Tr := ⟨0, 0, false⟩
section
variable {w : World} {q : Nat} {K : Nat → Prop} {fv av : Value} {s : St}
set_option maxRecDepth 100000 in
set_option maxHeartbeats 8000000 in
theorem befall52 (h0 : Rp w q K fv av s) (hn : s.n < 4611686018427387904) (hm : s.m < 3518437208780) :
    Calls Try.prog 52 #[ptr q] w fun e w' => e = .returned (.tuple #[.bool (doB s), .int .i64 (numb s s.fs).2]) ∧ ∃ K' av', Rp w' q K' fv av' (numb s s.fs).1 ∧ From w K K' ∧ Turn (fun k => k = q) w w' := by
  obtain ⟨N, hN⟩ : ∃ N : Nat, N = s.n + 1 := ⟨_, rfl⟩
  have hNi : (s.n : Int) + 1 = (N : Int) := by omega
  have hw : IntKind.i64.wrap ((s.n : Int) + 1) = (N : Int) := by rw [wrap_i64 (by omega) (by omega)]; omega
  have h1 := h0.setN N
  have T1 := setTurn w q 3 (.int .i64 N)
  have T2 : Turn no (w.setCell ⟨q, 3, none⟩ (.int .i64 N)) ((w.setCell ⟨q, 3, none⟩ (.int .i64 N)).alloc (.cells #[.int .i64 0, .int .i64 0, .bool false] 30)) := (Turn.refl no _).alloc _
  have h2 := h1.turn T2 (fun _ _ q => q)
  have RB : Row ((w.setCell ⟨q, 3, none⟩ (.int .i64 N)).alloc (.cells #[.int .i64 0, .int .i64 0, .bool false] 30)) (w.setCell ⟨q, 3, none⟩ (.int .i64 N)).heap.size #[.int .i64 0, .int .i64 0, .bool false] 30 := Row.new _ _ 30
  have hsz : (w.setCell ⟨q, 3, none⟩ (.int .i64 N)).heap.size = w.heap.size := by simp [World.setCell]
  have hs1 := T1.size
  have hs2 := T2.size
  have c3 := h0.c3
  have f3 := h0.row.frozen 3
  have hqlt := h0.klt q h0.kp
  obtain ⟨b0, hb0⟩ : ∃ b0, b0 = (w.setCell ⟨q, 3, none⟩ (.int .i64 N)).heap.size := ⟨_, rfl⟩
  rw [← hb0] at RB
  have hbw : b0 = w.heap.size := by rw [hb0, hsz]
  obtain ⟨w2, hw2⟩ : ∃ w2, w2 = (w.setCell ⟨q, 3, none⟩ (.int .i64 N)).alloc (.cells #[.int .i64 0, .int .i64 0, .bool false] 30) := ⟨_, rfl⟩
  rw [← hw2] at RB h2
  have hw2s : w2.heap.size = b0 + 1 := by rw [hw2, hb0]; simp
  have T12 : Turn (fun k => k = q) w w2 := by rw [hw2]; exact T1.then_no T2
  obtain ⟨aa, ac, hav⟩ := h0.arms.slice
  subst hav
  have hlm := h0.am
  have hK0 : ∀ k, K k → k < w.heap.size := h0.klt
  -- what follows the loop
  have hfin : ∀ wr v t, Aw (b0 + 1) b0 w2 wr v (s.arms.filter (fun a => decide (a.1 ≠ (N : Int)))) t → ∃ K' av', Rp (wr.setCell ⟨q, 6, none⟩ v) q K' fv av' { s with n := N, arms := s.arms.filter (fun a => decide (a.1 ≠ (N : Int))) } ∧ From w K K' ∧ Turn (fun k => k = q) w (wr.setCell ⟨q, 6, none⟩ v) := fun wr v t ha => by
    have h3 := h2.turn ha.turn (fun k hk e => by have := hK0 k hk; omega)
    have hsr := ha.turn.size
    have h4 := h3.setArms (K' := fun k => K k ∨ (b0 + 1 ≤ k ∧ k < wr.heap.size)) (fun _ q => Or.inl q) (fun k hk => by
      rcases hk with q | q
      · exact h3.klt k q
      · exact q.2) (ha.al.mono (fun _ q => Or.inr q)) (fun a q => h0.inv.arms a (List.mem_filter.1 q).1) (m := s.m) (Nat.le_trans (List.length_filter_le _ _) hlm)
    refine ⟨_, _, h4, fun k hk => hk.imp id (fun q => by omega), ((T12.trans ha.turn (fun k hk e => by omega)).trans (setTurn wr q 6 v) (fun _ _ q => q))⟩
  have HFIN := shut hfin
  have hcell : ∀ W, Turn (fun k => k = b0) w2 W → W.cell? ⟨q, 6, none⟩ = some (.slice aa s.arms.length ac) ∧ W.frozen? ⟨q, 6, none⟩ = false ∧ W.cell? ⟨q, 3, none⟩ = some (.int .i64 N) ∧ W.frozen? ⟨q, 4, none⟩ = false := fun W t => by
    have r := h2.row.turn t (fun e => by omega)
    exact ⟨r.cell 6 _ rfl, r.frozen 6, r.cell 3 _ rfl, r.frozen 4⟩
  have HC := shut hcell
  have hat : ∀ W, Turn (fun k => k = b0) w2 W → ∀ i a, s.arms[i]? = some a → ∃ g, aa = some ⟨g, 0, none⟩ ∧ W.cell? ⟨g, i * 4, none⟩ = some (.int .i64 a.1) ∧ W.cell? ⟨g, i * 4 + 1, none⟩ = some (.int .i64 a.2.when) ∧ W.cell? ⟨g, i * 4 + 2, none⟩ = some (.int .i64 a.2.kind) ∧ W.cell? ⟨g, i * 4 + 3, none⟩ = some (.bool a.2.done) := fun W t i a hi => by
    obtain ⟨g, c, e, d0, d1, d2, d3⟩ := (h2.arms.turn t (fun k hk e => by have := hK0 k hk; omega)).at i a hi
    simp at e
    exact ⟨g, e.1, d0, d1, d2, d3⟩
  have HAT := shut hat
  have hst : Aw (b0 + 1) b0 w2 w2 (.slice none 0 0) [] ztrT := ⟨Al.nil _ _, RB, Turn.refl _ _, hw2s.symm, by omega⟩
  have HST := shut hst
  have hE : numb s s.fs = match armAt (N : Int) s.arms with
      | none => ({ s with n := N, arms := s.arms.filter (fun a => decide (a.1 ≠ (N : Int))) }, 0)
      | some t => if t.kind = 1 then ({ s with n := N, arms := s.arms.filter (fun a => decide (a.1 ≠ (N : Int))) }, 64) else ({ s with n := N, arms := s.arms.filter (fun a => decide (a.1 ≠ (N : Int))), off := true }, 63) := by
    unfold numb
    rw [hNi, ← hN]
    cases armAt (N : Int) s.arms with
    | none => rfl
    | some t => simp only [ite_self]
  have hD : doB s = match armAt (N : Int) s.arms with | none => true | some t => if t.kind = 1 then false else t.done := by
    unfold doB
    rw [hNi]
  have HE := shut hE
  have HD := shut hD
  have HW2 := shut hw2
  have HB0 := shut hb0
  have HBW := shut hbw
  have HNI := shut hNi
  have hlen : (s.arms.length : Int) ≤ 3518437208780 := by omega
  have HQ : Shut (q < b0) := by show q < b0; omega
  clear hN
  clear hfin hcell hat hst hE hD h0 h1 h2 T1 T2 T12 RB hsz hs1 hs2 hK0 hNi hlm hqlt hbw hw2s
  unfold ptr at *
  go_enter Try.func52, Try.ntmps52
  go_wp2_with fail
  try rw [HNI.out]
  rw [← HBW.out, ← hw2]
  clear hb0 hw2
  obtain ⟨k6, k6f, k3, k4f⟩ := HC.out w2 (Turn.refl _ _)
  go_loopw [4, 5, 7] (fun x z y wr => ∃ (i : Nat) (oa : Option Addr) (on oc : Nat) (z' : Int), i ≤ s.arms.length ∧ x = .slice oa on oc ∧ z = .int .i64 z' ∧ y = .int .i64 i ∧ ((armAt (N : Int) (s.arms.take i) = none ∧ z' = -1) ∨ ((armAt (N : Int) (s.arms.take i)).isSome = true ∧ 0 ≤ z')) ∧ Shut (Aw (b0 + 1) b0 w2 wr (.slice oa on oc) ((s.arms.take i).filter (fun a => decide (a.1 ≠ (N : Int)))) ((armAt (N : Int) (s.arms.take i)).getD ztrT))) (fun _ _ y _ => s.arms.length - (intOf y).toNat)
  case atStart => exact ⟨0, none, 0, 0, -1, Nat.zero_le _, rfl, rfl, rfl, Or.inl ⟨rfl, rfl⟩, HST⟩
  case round =>
    clear k6 k6f k3 k4f
    obtain ⟨i, oa, on, oc, z', hi, rfl, rfl, rfl, hz, HW⟩ := hrel
    obtain ⟨k6, k6f, k3, k4f⟩ := HC.out wr HW.out.turn
    by_cases hlt : i < s.arms.length
    · have hlt' : (i : Int) < (s.arms.length : Int) := by omega
      obtain ⟨a, ha⟩ : ∃ a, s.arms[i]? = some a := ⟨s.arms[i], List.getElem?_eq_getElem hlt⟩
      obtain ⟨g, rfl, d0, d1, d2, d3⟩ := HAT.out wr HW.out.turn i a ha
      have hft := filt_take ha (fun a => decide (a.1 ≠ (N : Int)))
      have hat := armAt_take ha (N : Int)
      have hfl : ((s.arms.take i).filter (fun a => decide (a.1 ≠ (N : Int)))).length ≤ s.arms.length := by
        have h1 := List.length_filter_le (fun a : Int × Tr => decide (a.1 ≠ (N : Int))) (s.arms.take i)
        rw [List.length_take] at h1
        omega
      have HFL := shut hfl
      have HZ := shut hz
      by_cases hk : a.1 = (N : Int)
      · have hb1 : (a.1 == (N : Int)) = true := by simp [hk]
        have hb2 : (a.1 != (N : Int)) = false := by simp [hk]
        have e1 : decide (a.1 ≠ (N : Int)) = false := by simp [hk]
        rw [e1] at hft
        simp only [Bool.false_eq_true, if_false, List.append_nil] at hft
        have HFT := shut hft
        rw [if_pos hk.symm] at hat
        rw [hk] at d0
        clear hft hb1 hb2 e1
        rcases hz with ⟨hz1, hz2⟩ | ⟨hz1, hz2⟩
        · subst hz2
          rw [hz1] at hat
          simp only at hat
          have HATN := shut hat
          have HN1 := shut hz1
          clear hat hz1 hk
          have HWS : ∀ W, Turn no wr W → Shut (Aw (b0 + 1) b0 w2 (((W.setCell ⟨b0, 0, none⟩ (.int .i64 a.2.when)).setCell ⟨b0, 1, none⟩ (.int .i64 a.2.kind)).setCell ⟨b0, 2, none⟩ (.bool a.2.done)) (.slice oa on oc) ((s.arms.take (i + 1)).filter (fun a => decide (a.1 ≠ (N : Int)))) ((armAt (N : Int) (s.arms.take (i + 1))).getD ztrT)) := fun W t => by
            show Aw _ _ _ _ _ _ _
            rw [HFT.out, HATN.out]
            exact (HW.out.then_no t).set a.2
          have HWSS := shut HWS
          clear HWS
          go_wp2_with fail
          go_quiet (fail)
          have HX := HWSS.out _ ((Turn.refl no wr).drewN nq)
          have HW3 := shut (HW.out.then_no ((Turn.refl no wr).drewN nq))
          generalize wr.drewN nq = wd at *
          obtain ⟨k6', k6f', k3', k4f'⟩ := HC.out wd HW3.out.turn
          obtain ⟨g', eg', d0', d1', d2', d3'⟩ := HAT.out wd HW3.out.turn i a ha
          simp at eg'
          subst eg'
          have rb := HW3.out.row
          have rc0 := rb.frozen 0
          have rc1 := rb.frozen 1
          have rc2 := rb.frozen 2
          have rd0 := rb.cell 0 _ rfl
          have rd1 := rb.cell 1 _ rfl
          have rd2 := rb.cell 2 _ rfl
          clear rb
          go_wp2_with fail
          go_roundw
          case rel => exact ⟨i + 1, _, _, _, _, by omega, rfl, rfl, by go_num, Or.inr ⟨by rw [HATN.out]; rfl, by omega⟩, HX⟩
          case measure => simp [intOf]; omega
        · have HZ1 := shut hz1
          have hz3 : ¬ z' < 0 := by omega
          have HATN : Shut (armAt (N : Int) (s.arms.take (i + 1)) = armAt (N : Int) (s.arms.take i)) := by
            show armAt _ _ = _
            rw [hat]
            cases hx : armAt (N : Int) (s.arms.take i) with
            | none => rw [hx] at hz1; cases hz1
            | some y => rfl
          clear hat hz1 hk
          go_wp2_with fail
          go_quiet (fail)
          have HW3 := shut (HW.out.then_no ((Turn.refl no wr).drewN nq))
          generalize wr.drewN nq = wd at *
          go_wp2_with fail
          go_roundw
          case rel => exact ⟨i + 1, _, _, _, _, by omega, rfl, rfl, by go_num, Or.inr ⟨by rw [HATN.out]; exact HZ1.out, by omega⟩, by show Aw _ _ _ _ _ _ _; rw [HATN.out, HFT.out]; exact HW3.out⟩
          case measure => simp [intOf]; omega
      · have hb1 : (a.1 == (N : Int)) = false := by simp [hk]
        have hb2 : (a.1 != (N : Int)) = true := by simp [hk]
        have e1 : decide (a.1 ≠ (N : Int)) = true := by simp [hk]
        rw [e1] at hft
        simp only [if_true] at hft
        have HFT := shut hft
        have HATN : Shut (armAt (N : Int) (s.arms.take (i + 1)) = armAt (N : Int) (s.arms.take i)) := by
          show armAt _ _ = _
          rw [hat, if_neg (fun q => hk q.symm)]
          cases armAt (N : Int) (s.arms.take i) <;> rfl
        clear hft hat e1 hz
        go_wp2_with fail
        go_quiet (fail)
        have HW3 := shut (HW.out.then_no ((Turn.refl no wr).drewN nq))
        generalize wr.drewN nq = wd at *
        obtain ⟨k6', k6f', k3', k4f'⟩ := HC.out wd HW3.out.turn
        obtain ⟨g', eg', d0', d1', d2', d3'⟩ := HAT.out wd HW3.out.turn i a ha
        simp at eg'
        subst eg'
        obtain ⟨v6, w6, hap, hW6⟩ := HW3.out.step (by have := HFL.out; omega) a
        rw [← HFT.out] at hW6
        obtain ⟨ya, yn, yc, hyv⟩ : ∃ a n c, v6 = .slice a n c := by obtain ⟨a, c, e⟩ := hW6.al.slice; exact ⟨_, _, _, e⟩
        subst hyv
        have HW6 := shut hW6
        clear hW6
        go_wp2_with (at_builtin; refine wpList_append_run rfl _ _ (t := 91) (tx := 91) rfl _ _ rfl rfl (hap _) ?_)
        go_roundw
        case rel => exact ⟨i + 1, _, _, _, _, by omega, rfl, rfl, by go_num, by rw [HATN.out]; exact HZ.out, by show Aw _ _ _ _ _ _ _; rw [HATN.out]; exact HW6.out⟩
        case measure => simp [intOf]; omega
    · have hlt' : ¬ (i : Int) < (s.arms.length : Int) := by omega
      have hil : s.arms.take i = s.arms := List.take_of_length_le (by omega)
      rw [hil] at HW hz
      have hX := HFIN.out _ _ _ HW.out
      have rb := (HW.out.row).other (p := ⟨q, 6, none⟩) (fun e => by have := HQ.out; simp at e; omega) (.slice oa on oc)
      have rc1 : (wr.setCell ⟨q, 6, none⟩ (.slice oa on oc)).cell? ⟨b0, 1, none⟩ = some (.int .i64 ((armAt (N : Int) s.arms).getD ztrT).kind) := rb.cell 1 _ rfl
      have rc2 : (wr.setCell ⟨q, 6, none⟩ (.slice oa on oc)).cell? ⟨b0, 2, none⟩ = some (.bool ((armAt (N : Int) s.arms).getD ztrT).done) := rb.cell 2 _ rfl
      have hX4 : ∃ K' av', Rp ((wr.setCell ⟨q, 6, none⟩ (.slice oa on oc)).setCell ⟨q, 4, none⟩ (.bool true)) q K' fv av' { s with n := N, arms := s.arms.filter (fun a => decide (a.1 ≠ (N : Int))), off := true } ∧ From w K K' ∧ Turn (fun k => k = q) w ((wr.setCell ⟨q, 6, none⟩ (.slice oa on oc)).setCell ⟨q, 4, none⟩ (.bool true)) := by
        obtain ⟨K', av', a, b, c⟩ := hX
        exact ⟨K', av', a.setOff, b, c.trans (setTurn _ q 4 _) (fun _ _ q => q)⟩
      have hf4 : (wr.setCell ⟨q, 6, none⟩ (.slice oa on oc)).frozen? ⟨q, 4, none⟩ = false := by
        obtain ⟨K', av', a, b, c⟩ := hX
        exact a.row.frozen 4
      have hc4 : ∃ x, (wr.setCell ⟨q, 6, none⟩ (.slice oa on oc)).cell? ⟨q, 4, none⟩ = some (.bool x) := by
        obtain ⟨K', av', a, b, c⟩ := hX
        exact ⟨_, a.c4⟩
      obtain ⟨x4, hc4⟩ := hc4
      have HX := shut hX
      have HX4 := shut hX4
      clear hX hX4 rb
      generalize hW5 : wr.setCell ⟨q, 6, none⟩ (.slice oa on oc) = w5 at *
      rcases hz with ⟨hz1, hz2⟩ | ⟨hz1, hz2⟩
      · subst hz2
        have HZ1 := shut hz1
        clear hz1 rc1 rc2
        go_wp2_with fail
        go_ret2
        rw [HE.out, HD.out, HZ1.out]
        obtain ⟨K', av', x1, x2, x3⟩ := HX.out; exact ⟨rfl, K', ⟨av', x1⟩, x2, x3⟩
      · cases hx : armAt (N : Int) (s.arms) with
        | none => rw [hx] at hz1; cases hz1
        | some y =>
          have hz3 : ¬ z' < 0 := by omega
          rw [hx] at rc1 rc2
          simp only [Option.getD_some] at rc1 rc2
          have HX1 := shut hx
          clear hz1 hx
          by_cases hk : y.kind = 1
          · have HK := shut hk
            rw [hk] at rc1
            clear hk
            go_wp2_with fail
            go_ret2
            rw [HE.out, HD.out, HX1.out]
            simp only [HK.out, if_true]
            obtain ⟨K', av', x1, x2, x3⟩ := HX.out; exact ⟨rfl, K', ⟨av', x1⟩, x2, x3⟩
          · have hk' : (y.kind == 1) = false := by simp [hk]
            have HK := shut hk
            go_wp2_with fail
            go_ret2
            rw [HE.out, HD.out, HX1.out]
            simp only [HK.out, if_false]
            obtain ⟨K', av', x1, x2, x3⟩ := HX4.out; exact ⟨rfl, K', ⟨av', x1⟩, x2, x3⟩
end
end Go.Proofs.Ytcdogciacchigab
