/- roomy. -/
import Derived.Test.YtdbfbdhnjbmmjaaG10
namespace Go.Proofs.Ytdbfbdhnjbmmjaa
open Go.RowKit
set_option linter.unusedVariables false

def rlC (l : List Rl) : List Value := l.flatMap (fun m => [.int .u64 m.ht, .int .u64 m.ad, .int .u64 m.born, .int .u64 m.amt])
theorem rlC_len (l : List Rl) : (rlC l).length = l.length * 4 := by
  induction l with
  | nil => rfl
  | cons m r ih => simp only [rlC, List.flatMap_cons, List.length_append, List.length_cons, List.length_nil] at ih ⊢; omega
theorem rlC_at : ∀ (l : List Rl) (j : Nat) (m : Rl), l[j]? = some m → ∀ i, i < 4 → (rlC l)[j * 4 + i]? = [Value.int .u64 m.ht, .int .u64 m.ad, .int .u64 m.born, .int .u64 m.amt][i]?
  | x :: r, 0, m, h, i, hi => by
    simp at h
    subst h
    rw [rlC, List.flatMap_cons, Nat.zero_mul, Nat.zero_add, List.getElem?_append_left (by simpa using hi)]
  | x :: r, j + 1, m, h, i, hi => by
    rw [rlC, List.flatMap_cons, List.getElem?_append_right (by simp; omega)]
    have := rlC_at r j m (by simpa using h) i hi
    rw [rlC] at this
    rw [← this]
    congr 1
    simp
    omega
theorem rlC_one (l : List Rl) : ∀ u ∈ rlC l, u.oneCell' = true := by
  intro u hu
  unfold rlC at hu
  rw [List.mem_flatMap] at hu
  obtain ⟨m, _, hm⟩ := hu
  simp at hm
  rcases hm with rfl | rfl | rfl | rfl <;> rfl
theorem acC_one (l : List Ac) : ∀ u ∈ acC l, u.oneCell' = true := by
  intro u hu
  unfold acC at hu
  rw [List.mem_flatMap] at hu
  obtain ⟨m, _, hm⟩ := hu
  simp at hm
  rcases hm with rfl | rfl | rfl | rfl | rfl <;> rfl
theorem rlC_append (l m : List Rl) : rlC (l ++ m) = rlC l ++ rlC m := by simp [rlC]
theorem RsAt.turn {S : Nat → Prop} {w w' : World} {a : Option Addr} {cap : Nat} {l : List Rl} (h : RsAt w a cap l) (t : Turn S w w') (hn : ∀ x, a = some x → ¬ S x.block) : RsAt w' a cap l :=
  ⟨h.le, h.cap, h.ok, fun j m hj => by
    obtain ⟨b, off, e, c0, c1, c2, c3⟩ := h.cells j m hj
    have hb := hn _ e
    exact ⟨b, off, e, t.keep c0 hb, t.keep c1 hb, t.keep c2 hb, t.keep c3 hb⟩⟩
theorem RsAt.src {w : World} {a : Addr} {cap : Nat} {l : List Rl} (h : RsAt w (some a) cap l) : Src Try.prog 4 27 (.slice (some a) l.length cap) l.length (rlC l) w := by
  refine Src.ofSlice w Try.underlying27 a l.length cap (rlC l) (rlC_len l) (fun j u hu => ?_) (rlC_one l)
  have hj : j < l.length * 4 := by rw [← rlC_len]; exact (List.getElem?_eq_some_iff.1 hu).1
  have hm : l[j / 4]? = some (l[j / 4]'(by omega)) := List.getElem?_eq_getElem (by omega)
  obtain ⟨b, off, e, c0, c1, c2, c3⟩ := h.cells _ _ hm
  cases e
  have hx := rlC_at l (j / 4) _ hm (j % 4) (by omega)
  have ej : j / 4 * 4 + j % 4 = j := by omega
  rw [ej, hu] at hx
  rw [Addr.add_lit]
  rcases (show j % 4 = 0 ∨ j % 4 = 1 ∨ j % 4 = 2 ∨ j % 4 = 3 by omega) with q | q | q | q <;> rw [q] at hx <;> simp at hx <;> subst hx
  · rw [show off + j = off + j / 4 * 4 by omega]; exact c0
  · rw [show off + j = off + j / 4 * 4 + 1 by omega]; exact c1
  · rw [show off + j = off + j / 4 * 4 + 2 by omega]; exact c2
  · rw [show off + j = off + j / 4 * 4 + 3 by omega]; exact c3
theorem As.src {w : World} {a : Option Addr} {cap : Nat} {l : List Ac} (h : AsAt w a cap l) : Src Try.prog 5 22 (.slice a l.length cap) l.length (acC l) w := by
  cases a with
  | some q => exact h.src
  | none =>
    have h0 : l = [] := by
      cases l with
      | nil => rfl
      | cons m r =>
        obtain ⟨_, _, e, _⟩ := h.cells 0 m rfl
        cases e
    subst h0
    exact Src.ofNil _ Try.underlying22 cap
theorem Rs.src {w : World} {a : Option Addr} {cap : Nat} {l : List Rl} (h : RsAt w a cap l) : Src Try.prog 4 27 (.slice a l.length cap) l.length (rlC l) w := by
  cases a with
  | some q => exact h.src
  | none =>
    have h0 : l = [] := by
      cases l with
      | nil => rfl
      | cons m r =>
        obtain ⟨_, _, e, _⟩ := h.cells 0 m rfl
        cases e
    subst h0
    exact Src.ofNil _ Try.underlying27 cap
theorem OwnN.rs {w : World} {v : Value} {l : List Rl} (h : OwnN w 58 4 v l.length (rlC l)) (hok : ∀ m ∈ l, m.ok) : Rs w v l := by
  obtain ⟨a, cap, rfl, h0, h1, h2, h3⟩ := h.form
  refine ⟨a, cap, rfl, h2, h3, hok, fun j m hj => ?_⟩
  have hjl := (List.getElem?_eq_some_iff.1 hj).1
  rcases h.2 with ⟨_, q⟩ | ⟨g, cap', cur, e, _⟩
  · omega
  · cases e
    have hc : ∀ i u, (rlC l)[i]? = some u → w.cell? ⟨g, i, none⟩ = some u := fun i u hu => by
      have := World.ownsRow.cells h (g := g) rfl i u hu
      simpa [Addr.add_lit] using this
    have hx := rlC_at l j m hj
    refine ⟨g, 0, rfl, ?_, ?_, ?_, ?_⟩
    · rw [Nat.zero_add]; exact hc _ _ (by have := hx 0 (by omega); simpa using this)
    · rw [Nat.zero_add]; exact hc _ _ (by have := hx 1 (by omega); simpa using this)
    · rw [Nat.zero_add]; exact hc _ _ (by have := hx 2 (by omega); simpa using this)
    · rw [Nat.zero_add]; exact hc _ _ (by have := hx 3 (by omega); simpa using this)
theorem info58 : (Try.prog.info? 58).map (fun i => (i.zero, i.size, i.bytes)) = some (some (.agg #[.int .u64 0, .int .u64 0, .int .u64 0, .int .u64 0]), 4, 32) := by kernel_rfl
theorem wp_append_run {P : Program} {o : Oper} {a : Act} {w : World} {K : Act → World → Prop} {Q : Exit → Act → World → Prop} (s x : Operand) {t tx : TypeId}
    (ho : o.op = .call { callee := .builtin .append, args := #[s, x], argTypes := #[t, tx] }) (v xv : Value) (hs : a.eval s = v) (hx : a.eval x = xv) {v' : Value} {w' : World}
    (hr : (Builtin.append_ #[t, tx] o.type #[v, xv]).run P w = .ok v' w') (h : K (a.put o.dst v') w') : Oper.wp P o a w K Q := by
  unfold Oper.wp execOp
  simp only [ho, resolve, invoke, builtin, Sem.run_bind, Sem.run_pure, Result.andThen_ok, List.map_toArray, List.map_cons, List.map_nil, hs, hx, hr]
  exact h
theorem wpList_append_run {P : Program} {ops : Array Oper} {rest : List Oper} {o : Oper} {a : Act} {w : World} {Q : Exit → Act → World → Prop} (hgd : o.guard = none) (s x : Operand) {t tx : TypeId}
    (ho : o.op = .call { callee := .builtin .append, args := #[s, x], argTypes := #[t, tx] }) (v xv : Value) (hs : a.eval s = v) (hx : a.eval x = xv) {v' : Value} {w' : World}
    (hr : (Builtin.append_ #[t, tx] o.type #[v, xv]).run P w = .ok v' w') (h : wpList P ops Q rest (a.put o.dst v') w') : wpList P ops Q (o :: rest) a w :=
  wpList_plain hgd fun K hK => wp_append_run s x ho v xv hs hx hr (hK _ _ h)
/-- What stands behind the lists. -/
def acM : List Ac := [⟨777, 0, 0, 0, false⟩, ⟨778, 0, 0, 0, false⟩]
def rlM : List Rl := [⟨0, 777, 0, 0⟩, ⟨0, 778, 0, 0⟩]
theorem acM_ok : ∀ m ∈ acM, m.ok := by
  intro m hm
  simp [acM] at hm
  rcases hm with rfl | rfl <;> simp [Ac.ok]
theorem rlM_ok : ∀ m ∈ rlM, m.ok := by
  intro m hm
  simp [rlM] at hm
  rcases hm with rfl | rfl <;> simp [Rl.ok]
/-- A list and two behind it, of new memory: the first append, a store into another block, the second. -/
theorem room_two {P : Program} {t e : TypeId} {z : Value} {size bytes : Nat} (ht : P.underlying t = some (.slice e)) (hinf : (P.info? e).map (fun i => (i.zero, i.size, i.bytes)) = some (some z, size, bytes)) (hz : z.cells.size = size) (hsz : 0 < size)
    (w : World) (vs : Value) (n : Nat) (news : List Value) (hs : Src P size t vs n news w) (X : Array Value) (hX : X.size = 2 * size) (h1 : ∀ u ∈ X.toList, u.oneCell' = true) (hb : (n + 2) * bytes ≤ 140737488355328) (hm : n + 2 ≤ maxLen) (g j : Nat) (hg : g < w.heap.size) :
    ∃ a1 c1 w1 g2 c2 w2, (Builtin.append_ #[t, t] t #[.slice none 0 0, vs]).run P w = .ok (.slice a1 n c1) w1 ∧ Turn no w w1 ∧
      (Builtin.append_ #[t, t] t #[.slice a1 n c1, .slice (some ⟨(w1.setCell ⟨g, j, none⟩ (.slice a1 n c1)).heap.size, 0, none⟩) 2 2]).run P ((w1.setCell ⟨g, j, none⟩ (.slice a1 n c1)).alloc (.cells X e)) = .ok (.slice (some ⟨g2, 0, none⟩) (n + 2) c2) w2 ∧
      OwnN w2 e size (.slice (some ⟨g2, 0, none⟩) (n + 2) c2) (n + 2) (news ++ X.toList) ∧ w.heap.size ≤ g2 ∧ Turn (fun k => k = g) w w2 ∧ (∀ cs et, Row w g cs et → Row w2 g (cs.setIfInBounds j (.slice a1 n c1)) et) := by
  obtain ⟨v1, w1, r1, O1, G1⟩ := run_append_srcN (P := P) ht hinf hz hsz t w (.slice none 0 0) 0 [] (OwnN.nil w e size) vs n news hs (Nat.le_trans (Nat.mul_le_mul_right _ (by omega)) hb) (by omega)
  rw [Nat.zero_add, List.nil_append] at O1
  obtain ⟨a1, c1, e1, _⟩ := id O1.form
  subst e1
  have T1 : Turn no w w1 := G1.turn.mono (fun k hk q => by cases q)
  have f1 : ∀ q, (Value.slice a1 n c1).ownBlock = some q → w.heap.size ≤ q := G1.fresh (fun q hq => by cases hq) (Nat.le_refl _)
  have TS : Turn (fun k => k = g) w1 (w1.setCell ⟨g, j, none⟩ (.slice a1 n c1)) := (Turn.refl (fun k => k = g) w1).setCell (p := ⟨g, j, none⟩) (fun _ => rfl) _
  have TA : Turn no (w1.setCell ⟨g, j, none⟩ (.slice a1 n c1)) ((w1.setCell ⟨g, j, none⟩ (.slice a1 n c1)).alloc (.cells X e)) := (Turn.refl no _).alloc _
  have O2 := (O1.turn TS (fun q hq z => by have := f1 q hq; omega)).turn_no TA
  have R := Row.new (w1.setCell ⟨g, j, none⟩ (.slice a1 n c1)) X e
  have hsrc : Src P size t (.slice (some ⟨(w1.setCell ⟨g, j, none⟩ (.slice a1 n c1)).heap.size, 0, none⟩) 2 2) 2 X.toList ((w1.setCell ⟨g, j, none⟩ (.slice a1 n c1)).alloc (.cells X e)) := by
    refine Src.ofSlice _ ht _ _ _ _ (by simpa using hX) (fun i u hu => ?_) h1
    rw [Addr.add_lit, Nat.zero_add]
    exact R.cell i u (by simpa using hu)
  obtain ⟨v2, w2, r2, O3, G2⟩ := run_append_srcN (P := P) ht hinf hz hsz t _ (.slice a1 n c1) n news O2 _ 2 X.toList hsrc hb hm
  have T0 : Turn (fun k => k = g) w ((w1.setCell ⟨g, j, none⟩ (.slice a1 n c1)).alloc (.cells X e)) := (T1.of_no.trans TS (fun _ _ q => q)).then_no TA
  have hsz2 : w.heap.size ≤ ((w1.setCell ⟨g, j, none⟩ (.slice a1 n c1)).alloc (.cells X e)).heap.size := T0.size
  rcases O3.2 with ⟨_, q⟩ | ⟨g2, c2, cur, e2, _⟩
  · omega
  · subst e2
    refine ⟨a1, c1, w1, g2, c2, w2, r1, T1, r2, O3, G2.fresh f1 hsz2 g2 rfl, T0.trans G2.turn (fun k hk q => by have := f1 k q; omega), fun cs et hR => ?_⟩
    have R1 := ((hR.turn T1 (fun q => q)).set j (.slice a1 n c1)).turn TA (fun q => q)
    exact R1.turn G2.turn (fun q => by have := f1 g q; omega)
def acX : Array Value := #[.int .u64 777, .int .u64 0, .int .u64 0, .int .u64 0, .bool false, .int .u64 778, .int .u64 0, .int .u64 0, .int .u64 0, .bool false]
def rlX : Array Value := #[.int .u64 0, .int .u64 777, .int .u64 0, .int .u64 0, .int .u64 0, .int .u64 778, .int .u64 0, .int .u64 0]
theorem acX_eq : acX.toList = acC acM := rfl
theorem rlX_eq : rlX.toList = rlC rlM := rfl
/-- A ledger with room behind its lists, in memory. -/
structure Roomy (w : World) (ga ac gr rc : Nat) (l : List Ac) (r : List Rl) : Prop where
  acs : AsAt w (some ⟨ga, 0, none⟩) ac (l ++ acM)
  rls : RsAt w (some ⟨gr, 0, none⟩) rc (r ++ rlM)
set_option maxRecDepth 100000 in
set_option maxHeartbeats 4000000 in
theorem roomy10 (w : World) (va vr : Value) (l : List Ac) (r : List Rl) (ha : As w va l) (hr : Rs w vr r) (hla : l.length * 40 ≤ 140737488351232) (hlr : r.length * 32 ≤ 140737488351232) (b s : Int) : Calls Try.prog 10 #[.agg #[va, vr, .int .u64 b, .int .u64 s]] w fun e w' =>
    ∃ ga ac gr rc, e = .returned (.agg #[.slice (some ⟨ga, 0, none⟩) (l.length + 2) ac, .slice (some ⟨gr, 0, none⟩) (r.length + 2) rc, .int .u64 b, .int .u64 s]) ∧ Roomy w' ga ac gr rc l r ∧ Turn no w w' := by
  obtain ⟨a, ac0, rfl, hA⟩ := ha
  obtain ⟨p, pc0, rfl, hP⟩ := hr
  obtain ⟨w0, hw0⟩ : ∃ w0, ((w.alloc (.cells #[.slice a l.length ac0, .slice p r.length pc0, .int .u64 b, .int .u64 s] 29)).alloc (.cells #[.slice none 0 0, .slice none 0 0, .int .u64 0, .int .u64 0] 29)).alloc (.cells #[.slice a l.length ac0, .slice p r.length pc0, .int .u64 b, .int .u64 s] 29) = w0 := ⟨_, rfl⟩
  have T0 : Turn no w w0 := by rw [← hw0]; exact (((Turn.refl no w).alloc _).alloc _).alloc _
  have B0 : Row w0 w.heap.size #[.slice a l.length ac0, .slice p r.length pc0, .int .u64 b, .int .u64 s] 29 := by rw [← hw0]; exact ((Row.new w _ 29).alloc _).alloc _
  have B1 : Row w0 (w.heap.size + 1) #[.slice none 0 0, .slice none 0 0, .int .u64 0, .int .u64 0] 29 := by rw [← hw0]; exact (Row.newAt _ _ _ _ (by simp)).alloc _
  have B2 : Row w0 (w.heap.size + 1 + 1) #[.slice a l.length ac0, .slice p r.length pc0, .int .u64 b, .int .u64 s] 29 := by rw [← hw0]; exact Row.newAt _ _ _ _ (by simp)
  have hsA := As.src (hA.turn_no T0)
  have HOKA := shut hA.ok
  have HOKP := shut hP.ok
  obtain ⟨a1, c1, w1, g2, c2, w2, r1, T1, r2, O2, f2, T2, K2⟩ := room_two Try.underlying22 info39 rfl (by decide) w0 _ _ _ hsA acX rfl (acC_one acM) (by omega) (by simp only [maxLen]; omega) (w.heap.size + 1 + 1) 0 B2.lt
  have hz1 : (w1.setCell ⟨w.heap.size + 1 + 1, 0, none⟩ (.slice a1 l.length c1)).heap.size = w1.heap.size := by simp
  rw [hz1] at r2
  have B0' := B0.turn T2 (fun q => by omega)
  have B1' := B1.turn T2 (fun q => by omega)
  have B2a := K2 _ _ B2
  have hs0 : w0.heap.size = w.heap.size + 3 := by rw [← hw0]; simp
  -- behind the accounts
  have T3 : Turn (fun k => k = w.heap.size + 1 + 1) w0 (w2.setCell ⟨w.heap.size + 1 + 1, 0, none⟩ (.slice (some ⟨g2, 0, none⟩) (l.length + 2) c2)) := T2.setCell (p := ⟨w.heap.size + 1 + 1, 0, none⟩) (fun _ => rfl) _
  have TS3 : Turn (fun k => k = w.heap.size + 1 + 1) w2 (w2.setCell ⟨w.heap.size + 1 + 1, 0, none⟩ (.slice (some ⟨g2, 0, none⟩) (l.length + 2) c2)) := (Turn.refl (fun k => k = w.heap.size + 1 + 1) w2).setCell (p := ⟨w.heap.size + 1 + 1, 0, none⟩) (fun _ => rfl) _
  have B3 : Row (w2.setCell ⟨w.heap.size + 1 + 1, 0, none⟩ (.slice (some ⟨g2, 0, none⟩) (l.length + 2) c2)) (w.heap.size + 1 + 1) #[.slice (some ⟨g2, 0, none⟩) (l.length + 2) c2, .slice p r.length pc0, .int .u64 b, .int .u64 s] 29 := B2a.set 0 _
  have A3 : AsAt (w2.setCell ⟨w.heap.size + 1 + 1, 0, none⟩ (.slice (some ⟨g2, 0, none⟩) (l.length + 2) c2)) (some ⟨g2, 0, none⟩) c2 (l ++ acM) := by
    rw [acX_eq, ← acC_append] at O2
    obtain ⟨x, y, e, h⟩ := OwnN.as (l := l ++ acM) (by rw [show (l ++ acM).length = l.length + 2 by simp [acM]]; exact O2) (fun m hm => (List.mem_append.1 hm).elim (HOKA.out m) (acM_ok m))
    injection e with e1 e2 e3
    subst e1
    subst e3
    exact h.turn TS3 (fun x q z => by cases q; have z' : g2 = w.heap.size + 1 + 1 := z; omega)
  have x0 := B0.cell 0 _ rfl
  have y0 := (B2.turn T1 (fun q => q)).cell 0 _ rfl
  have y1 := (B2.turn T1 (fun q => q)).frozen 0
  have z0 := ((B2.turn T1 (fun q => q)).set 0 (.slice a1 l.length c1)).cell 0 _ rfl
  have u0 := B2a.cell 0 _ rfl
  have u1 := B2a.frozen 0
  have TW3 : Turn no w (w2.setCell ⟨w.heap.size + 1 + 1, 0, none⟩ (.slice (some ⟨g2, 0, none⟩) (l.length + 2) c2)) := T0.trans T3 (fun i hi q => by omega)
  have B0w := B0.turn T3 (fun q => by omega)
  have B1w := B1.turn T3 (fun q => by omega)
  obtain ⟨w3, hw3⟩ : ∃ w3, w2.setCell ⟨w.heap.size + 1 + 1, 0, none⟩ (.slice (some ⟨g2, 0, none⟩) (l.length + 2) c2) = w3 := ⟨_, rfl⟩
  rw [hw3] at T3 TS3 B3 A3 TW3 B0w B1w
  have hsP := Rs.src (hP.turn_no TW3)
  obtain ⟨a4, c4, w4, g5, c5, w5, r4, T4, r5, O5, f5, T5, K5⟩ := room_two Try.underlying27 info58 rfl (by decide) w3 _ _ _ hsP rlX rfl (rlC_one rlM) (by omega) (by simp only [maxLen]; omega) (w.heap.size + 1 + 1) 1 B3.lt
  have hz4 : (w4.setCell ⟨w.heap.size + 1 + 1, 1, none⟩ (.slice a4 r.length c4)).heap.size = w4.heap.size := by simp
  rw [hz4] at r5
  have hg5 : ¬ g5 = w.heap.size + 1 + 1 := by have := B3.lt; omega
  have hg2 : ¬ g2 = w.heap.size + 1 + 1 := by have := B2.lt; omega
  have HG : Shut (¬ g2 = w.heap.size + 1 ∧ ¬ g5 = w.heap.size + 1) := by
    have h1 := B3.lt
    have h2 := B2.lt
    refine ⟨?_, ?_⟩ <;> omega
  have B5a := K5 _ _ B3
  have TS6 : Turn (fun k => k = w.heap.size + 1 + 1) w5 (w5.setCell ⟨w.heap.size + 1 + 1, 1, none⟩ (.slice (some ⟨g5, 0, none⟩) (r.length + 2) c5)) := (Turn.refl (fun k => k = w.heap.size + 1 + 1) w5).setCell (p := ⟨w.heap.size + 1 + 1, 1, none⟩) (fun _ => rfl) _
  have T6 : Turn (fun k => k = w.heap.size + 1 + 1) w3 (w5.setCell ⟨w.heap.size + 1 + 1, 1, none⟩ (.slice (some ⟨g5, 0, none⟩) (r.length + 2) c5)) := T5.trans TS6 (fun _ _ q => q)
  have B6 : Row (w5.setCell ⟨w.heap.size + 1 + 1, 1, none⟩ (.slice (some ⟨g5, 0, none⟩) (r.length + 2) c5)) (w.heap.size + 1 + 1) #[.slice (some ⟨g2, 0, none⟩) (l.length + 2) c2, .slice (some ⟨g5, 0, none⟩) (r.length + 2) c5, .int .u64 b, .int .u64 s] 29 := B5a.set 1 _
  have A6 : AsAt (w5.setCell ⟨w.heap.size + 1 + 1, 1, none⟩ (.slice (some ⟨g5, 0, none⟩) (r.length + 2) c5)) (some ⟨g2, 0, none⟩) c2 (l ++ acM) := A3.turn T6 (fun x q z => by cases q; exact hg2 z)
  have P6 : RsAt (w5.setCell ⟨w.heap.size + 1 + 1, 1, none⟩ (.slice (some ⟨g5, 0, none⟩) (r.length + 2) c5)) (some ⟨g5, 0, none⟩) c5 (r ++ rlM) := by
    rw [rlX_eq, ← rlC_append] at O5
    have O6 := O5.turn TS6 (fun g hg z => by cases hg; exact hg5 z)
    obtain ⟨x, y, e, h⟩ := OwnN.rs (l := r ++ rlM) (by rw [show (r ++ rlM).length = r.length + 2 by simp [rlM]]; exact O6) (fun m hm => (List.mem_append.1 hm).elim (HOKP.out m) (rlM_ok m))
    injection e with e1 e2 e3
    subst e1
    subst e3
    exact h
  have TW6 := TW3.trans T6 (fun i hi q => by omega)
  have B1z := B1w.turn T6 (fun q => by omega)
  have x1 := B0w.cell 1 _ rfl
  have v0 := (B3.turn T4 (fun q => q)).cell 1 _ rfl
  have v1 := (B3.turn T4 (fun q => q)).frozen 1
  have v2 := ((B3.turn T4 (fun q => q)).set 1 (.slice a4 r.length c4)).cell 1 _ rfl
  have v3 := B5a.cell 1 _ rfl
  have v4 := B5a.frozen 1
  have HAP := shut (And.intro A6 P6)
  have HTW := shut TW6
  have HB6 := shut B6
  have HB1 := shut B1z
  clear A6 P6 TW6 B1z B6 T6 TS6 B5a hg5 hg2 hz4 K5 T5 f5 O5 T4 hsP TS3 T3 TW3 B0w B1w A3 B3 hs0 B2a B0' B1' hz1 K2 T2 f2 O2 T1 hsA B2 B1 B0 T0 hA hP HOKA HOKP hla hlr
  generalize l.length = n at *
  generalize r.length = k at *
  go_enter Try.func10, Try.ntmps10
  go_upto_region 2 with fail
  try rw [hw0]
  clear hw0
  go_upto_region 3 with (at_builtin; refine wpList_append_run rfl _ _ rfl _ _ rfl rfl r1 ?_; clear r1)
  go_upto_region 4 with (at_builtin; refine wpList_append_run rfl (.tmp 10) (.tmp 13) rfl _ _ rfl rfl r2 ?_; clear r2)
  try rw [hw3]
  clear x0 y0 y1 z0 u0 u1 hw3
  go_upto_region 5 with (at_builtin; refine wpList_append_run rfl _ _ rfl _ _ rfl rfl r4 ?_; clear r4)
  go_upto_region 6 with (at_builtin; refine wpList_append_run rfl (.tmp 21) (.tmp 24) rfl _ _ rfl rfl r5 ?_; clear r5)
  have hb6 := HB6.out
  have hb1 := HB1.out
  have e0 := hb6.cell 0 _ rfl
  have e1 := hb6.cell 1 _ rfl
  have e2 := hb6.cell 2 _ rfl
  have e3 := hb6.cell 3 _ rfl
  have hi4 : (Try.prog.info? 29).map (·.size) = some (#[Value.slice (some ⟨g2, 0, none⟩) (n + 2) c2, .slice (some ⟨g5, 0, none⟩) (k + 2) c5, .int .u64 b, .int .u64 s]).size := by kernel_rfl
  have ho4 : (#[Value.slice (some ⟨g2, 0, none⟩) (n + 2) c2, .slice (some ⟨g5, 0, none⟩) (k + 2) c5, .int .u64 b, .int .u64 s]).all (·.oneCell') = true := by simp [Value.oneCell']
  clear v0 v1 v2 v3 v4 x1 hb6
  go_wp2_with (refine wpList_store_anyN rfl rfl 29 (.tmp 2) (.tmp 27) rfl (w.heap.size + 1) #[.slice (some ⟨g2, 0, none⟩) (n + 2) c2, .slice (some ⟨g5, 0, none⟩) (k + 2) c5, .int .u64 b, .int .u64 s] rfl rfl 29 _ hb1 hi4 rfl ho4 ?_; intro w9 R9 T9)
  refine ⟨rfl, _, results_cell_row (g := w.heap.size + 1) (cs := #[.slice (some ⟨g2, 0, none⟩) (n + 2) c2, .slice (some ⟨g5, 0, none⟩) (k + 2) c5, .int .u64 b, .int .u64 s]) (t := 29) rfl _ _ _ _ rfl R9 Try.underlying29 rfl (by kernel_rfl), g2, c2, g5, c5, rfl, ⟨HAP.out.1.turn T9 (fun x q z => ?_), HAP.out.2.turn T9 (fun x q z => ?_)⟩, HTW.out.trans T9 (fun i hi q => by omega)⟩
  · cases q
    exact HG.out.1 z
  · cases q
    exact HG.out.2 z
end Go.Proofs.Ytdbfbdhnjbmmjaa
