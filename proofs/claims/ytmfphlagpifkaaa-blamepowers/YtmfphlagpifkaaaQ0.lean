/- Two appends behind one another onto a new empty list. -/
import Derived.Test.YtmfphlagpifkaaaM20
namespace Go.Proofs.Ytmfphlagpifkaaa
open Go.RowKit
set_option linter.unusedVariables false

theorem own_empty (w : World) (e : TypeId) (size : Nat) : OwnN (w.alloc (.cells #[] e)) e size (.slice (some ⟨w.heap.size, 0, none⟩) 0 0) 0 [] :=
  ⟨by simp, .inr ⟨w.heap.size, 0, #[], rfl, Nat.zero_le _, heap_alloc_new w _, Nat.le_refl _, by simp [maxLen], by simp, by simp⟩⟩
theorem Row.src1 {P : Program} {t e' e : TypeId} {size : Nat} (hk : P.underlying t = some (.slice e')) {W : World} {g : Nat} {X : Array Value} (h : Row W g X e) (hX : X.size = size) (h1 : ∀ u ∈ X.toList, u.oneCell' = true) : Src P size t (.slice (some ⟨g, 0, none⟩) 1 1) 1 X.toList W := by
  refine Src.ofSlice W hk _ _ _ _ (by simp [hX]) (fun j u hu => ?_) h1
  rw [Addr.add_lit, Nat.zero_add]
  exact h.cell j u (by simpa using hu)
theorem wp_append_run {P : Program} {o : Oper} {a : Act} {w : World} {K : Act → World → Prop} {Q : Exit → Act → World → Prop} (s x : Operand) {t tx : TypeId}
    (ho : o.op = .call { callee := .builtin .append, args := #[s, x], argTypes := #[t, tx] }) (v xv : Value) (hs : a.eval s = v) (hx : a.eval x = xv) {v' : Value} {w' : World}
    (hr : (Builtin.append_ #[t, tx] o.type #[v, xv]).run P w = .ok v' w') (h : K (a.put o.dst v') w') : Oper.wp P o a w K Q := by
  unfold Oper.wp execOp
  simp only [ho, resolve, invoke, builtin, Sem.run_bind, Sem.run_pure, Result.andThen_ok, List.map_toArray, List.map_cons, List.map_nil, hs, hx, hr]
  exact h
theorem wpList_append_run {P : Program} {ops : Array Oper} {rest : List Oper} {o : Oper} {a : Act} {w : World} {Q : Exit → Act → World → Prop} (hgd : o.guard = none) (s x : Operand) {t tx : TypeId}
    (ho : o.op = .call { callee := .builtin .append, args := #[s, x], argTypes := #[t, tx] }) (v xv : Value) (hs : a.eval s = v) (hx : a.eval x = xv) {v' : Value} {w' : World}
    (hr : (Builtin.append_ #[t, tx] o.type #[v, xv]).run P w = .ok v' w') (h : wpList P ops Q rest (a.put o.dst v') w') : wpList P ops Q (o :: rest) a w :=
  wpList_plain hgd fun K hK => wp_append_run s x ho v xv hs hx hr (hK _ _ h)
theorem Row.set {w : World} {g : Nat} {cs : Array Value} {e : TypeId} (h : Row w g cs e) (j : Nat) (u : Value) : Row (w.setCell ⟨g, j, none⟩ u) g (cs.setIfInBounds j u) e := heap_setCell_same w g j cs e u h
theorem Row.frozen {w : World} {g : Nat} {cs : Array Value} {e : TypeId} (h : Row w g cs e) (j : Nat) : w.frozen? ⟨g, j, none⟩ = false := frozen_of_row w g j cs e h
section
variable {P : Program} {t e : TypeId} {z : Value} {size bytes : Nat}
/-- The first append: onto what is empty. -/
theorem app_first (ht : P.underlying t = some (.slice e)) (hinf : (P.info? e).map (fun i => (i.zero, i.size, i.bytes)) = some (some z, size, bytes)) (hz : z.cells.size = size) (hsz : 0 < size)
    {w W0 : World} (T : Turn no w W0) {v0 : Value} (O : OwnN W0 e size v0 0 []) (f : ∀ g, v0.ownBlock = some g → w.heap.size ≤ g) {vs : Value} {n : Nat} {news : List Value} (hs : Src P size t vs n news W0) (hb : (n + 1) * bytes ≤ 140737488355328) (hm : n + 1 ≤ maxLen) :
    ∃ v1 w1, (Builtin.append_ #[t, t] t #[v0, vs]).run P W0 = .ok v1 w1 ∧ OwnN w1 e size v1 n news ∧ (∀ g, v1.ownBlock = some g → w.heap.size ≤ g) ∧ Turn no w w1 ∧ Turn (fun k => v0.ownBlock = some k) W0 w1 ∧ ∃ a c, v1 = .slice a n c := by
  obtain ⟨v1, w1, hr, O1, G1⟩ := run_append_srcN (P := P) ht hinf hz hsz t W0 v0 0 [] O vs n news hs (Nat.le_trans (Nat.mul_le_mul_right _ (by omega)) hb) (by omega)
  rw [Nat.zero_add, List.nil_append] at O1
  obtain ⟨a, c, e1, _⟩ := O1.form
  exact ⟨v1, w1, hr, O1, G1.fresh f T.size, T.trans G1.turn (fun k hk q => by have := f k q; omega), G1.turn, a, c, e1⟩
/-- The second: one element. -/
theorem app_second (ht : P.underlying t = some (.slice e)) (hinf : (P.info? e).map (fun i => (i.zero, i.size, i.bytes)) = some (some z, size, bytes)) (hz : z.cells.size = size) (hsz : 0 < size)
    {w W1 : World} (T : Turn no w W1) {v1 : Value} {n : Nat} {news : List Value} (O : OwnN W1 e size v1 n news) (f : ∀ g, v1.ownBlock = some g → w.heap.size ≤ g) {g : Nat} {X : Array Value} (hR : Row W1 g X e) (hX : X.size = size) (h1 : ∀ u ∈ X.toList, u.oneCell' = true) (hb : (n + 1) * bytes ≤ 140737488355328) (hm : n + 1 ≤ maxLen) :
    ∃ v2 w2, (Builtin.append_ #[t, t] t #[v1, .slice (some ⟨g, 0, none⟩) 1 1]).run P W1 = .ok v2 w2 ∧ OwnN w2 e size v2 (n + 1) (news ++ X.toList) ∧ Turn no w w2 ∧ ∃ g2 c2, v2 = .slice (some ⟨g2, 0, none⟩) (n + 1) c2 ∧ n + 1 ≤ c2 ∧ w.heap.size ≤ g2 := by
  obtain ⟨v2, w2, hr, O2, G2⟩ := run_append_srcN (P := P) ht hinf hz hsz t W1 v1 n news O (.slice (some ⟨g, 0, none⟩) 1 1) 1 X.toList (hR.src1 ht hX h1) hb hm
  refine ⟨v2, w2, hr, O2, T.trans G2.turn (fun k hk q => by have := f k q; omega), ?_⟩
  rcases O2.2 with ⟨_, q⟩ | ⟨g2, c2, cur, e2, _, _, h2, _⟩
  · omega
  · exact ⟨g2, c2, e2, h2, G2.fresh f T.size g2 (by rw [e2]; rfl)⟩
/-- Empty, append, one, append. -/
theorem app_a (ht : P.underlying t = some (.slice e)) (hinf : (P.info? e).map (fun i => (i.zero, i.size, i.bytes)) = some (some z, size, bytes)) (hz : z.cells.size = size) (hsz : 0 < size)
    (w : World) {vs : Value} {n : Nat} {news : List Value} (hs : ∀ W, Turn no w W → Src P size t vs n news W) {X : Array Value} (hX : X.size = size) (h1 : ∀ u ∈ X.toList, u.oneCell' = true) (hb : (n + 1) * bytes ≤ 140737488355328) (hm : n + 1 ≤ maxLen) :
    ∃ v1 w1 v2 w2, (Builtin.append_ #[t, t] t #[.slice (some ⟨w.heap.size, 0, none⟩) 0 0, vs]).run P (w.drew.alloc (.cells #[] e)) = .ok v1 w1 ∧ Turn no w w1 ∧
      (Builtin.append_ #[t, t] t #[v1, .slice (some ⟨w1.heap.size, 0, none⟩) 1 1]).run P (w1.alloc (.cells X e)) = .ok v2 w2 ∧ Turn no w (w1.alloc (.cells X e)) ∧ Turn no w w2 ∧ OwnN w2 e size v2 (n + 1) (news ++ X.toList) ∧ ∃ g2 c2, v2 = .slice (some ⟨g2, 0, none⟩) (n + 1) c2 ∧ n + 1 ≤ c2 ∧ w.heap.size ≤ g2 := by
  have T0 : Turn no w (w.drew.alloc (.cells #[] e)) := ((Turn.refl no w).drew).alloc _
  obtain ⟨v1, w1, r1, O1, f1, T1, _, _⟩ := app_first ht hinf hz hsz T0 (own_empty w.drew e size) (fun g q => by cases q; exact Nat.le_refl _) (hs _ T0) hb hm
  have TA : Turn no w1 (w1.alloc (.cells X e)) := (Turn.refl no w1).alloc _
  obtain ⟨v2, w2, r2, O2, T2, q2⟩ := app_second ht hinf hz hsz (T1.then_no TA) (O1.turn_no TA) f1 (Row.new w1 X e) hX h1 hb hm
  exact ⟨v1, w1, v2, w2, r1, T1, r2, T1.then_no TA, T2, O2, q2⟩
/-- Empty, one, append, append. -/
theorem app_b (ht : P.underlying t = some (.slice e)) (hinf : (P.info? e).map (fun i => (i.zero, i.size, i.bytes)) = some (some z, size, bytes)) (hz : z.cells.size = size) (hsz : 0 < size)
    (w : World) {vs : Value} {n : Nat} {news : List Value} (hs : ∀ W, Turn no w W → Src P size t vs n news W) {X : Array Value} (hX : X.size = size) (h1 : ∀ u ∈ X.toList, u.oneCell' = true) (hb : (n + 1) * bytes ≤ 140737488355328) (hm : n + 1 ≤ maxLen) :
    ∃ v1 w1 v2 w2, (Builtin.append_ #[t, t] t #[.slice (some ⟨w.heap.size, 0, none⟩) 0 0, vs]).run P ((w.drew.alloc (.cells #[] e)).alloc (.cells X e)) = .ok v1 w1 ∧ Turn no w w1 ∧
      (Builtin.append_ #[t, t] t #[v1, .slice (some ⟨(w.alloc (.cells #[] e)).drew.heap.size, 0, none⟩) 1 1]).run P w1 = .ok v2 w2 ∧ Turn no w w2 ∧ OwnN w2 e size v2 (n + 1) (news ++ X.toList) ∧ ∃ g2 c2, v2 = .slice (some ⟨g2, 0, none⟩) (n + 1) c2 ∧ n + 1 ≤ c2 ∧ w.heap.size ≤ g2 := by
  have T0 : Turn no w (w.drew.alloc (.cells #[] e)) := ((Turn.refl no w).drew).alloc _
  have TA : Turn no (w.drew.alloc (.cells #[] e)) ((w.drew.alloc (.cells #[] e)).alloc (.cells X e)) := (Turn.refl no _).alloc _
  have R : Row ((w.drew.alloc (.cells #[] e)).alloc (.cells X e)) (w.alloc (.cells #[] e)).drew.heap.size X e := Row.new _ X e
  obtain ⟨v1, w1, r1, O1, f1, T1, TT, _⟩ := app_first ht hinf hz hsz (T0.then_no TA) ((own_empty w.drew e size).turn_no TA) (fun g q => by cases q; exact Nat.le_refl _) (hs _ (T0.then_no TA)) hb hm
  obtain ⟨v2, w2, r2, O2, T2, q2⟩ := app_second ht hinf hz hsz T1 O1 f1 (R.turn TT (fun q => by
    have e1 : w.heap.size = (w.alloc (.cells #[] e)).drew.heap.size := Option.some.inj q
    have e2 : (w.alloc (.cells #[] e)).drew.heap.size = w.heap.size + 1 := by simp
    omega)) hX h1 hb hm
  exact ⟨v1, w1, v2, w2, r1, T1, r2, T2, O2, q2⟩
/-- One, empty, append, append. -/
theorem app_c (ht : P.underlying t = some (.slice e)) (hinf : (P.info? e).map (fun i => (i.zero, i.size, i.bytes)) = some (some z, size, bytes)) (hz : z.cells.size = size) (hsz : 0 < size)
    (w : World) {vs : Value} {n : Nat} {news : List Value} (hs : ∀ W, Turn no w W → Src P size t vs n news W) {X : Array Value} (hX : X.size = size) (h1 : ∀ u ∈ X.toList, u.oneCell' = true) (hb : (n + 1) * bytes ≤ 140737488355328) (hm : n + 1 ≤ maxLen) :
    ∃ v1 w1 v2 w2, (Builtin.append_ #[t, t] t #[.slice (some ⟨w.heap.size + 1, 0, none⟩) 0 0, vs]).run P ((w.drew.alloc (.cells X e)).alloc (.cells #[] e)) = .ok v1 w1 ∧ Turn no w w1 ∧
      (Builtin.append_ #[t, t] t #[v1, .slice (some ⟨w.heap.size, 0, none⟩) 1 1]).run P w1 = .ok v2 w2 ∧ Turn no w w2 ∧ OwnN w2 e size v2 (n + 1) (news ++ X.toList) ∧ ∃ g2 c2, v2 = .slice (some ⟨g2, 0, none⟩) (n + 1) c2 ∧ n + 1 ≤ c2 ∧ w.heap.size ≤ g2 := by
  have T0 : Turn no w (w.drew.alloc (.cells X e)) := ((Turn.refl no w).drew).alloc _
  have TA : Turn no (w.drew.alloc (.cells X e)) ((w.drew.alloc (.cells X e)).alloc (.cells #[] e)) := (Turn.refl no _).alloc _
  have R : Row ((w.drew.alloc (.cells X e)).alloc (.cells #[] e)) w.heap.size X e := (Row.new w.drew X e).alloc _
  have O := own_empty (w.drew.alloc (.cells X e)) e size
  have hsz' : (w.drew.alloc (.cells X e)).heap.size = w.heap.size + 1 := by simp
  rw [hsz'] at O
  obtain ⟨v1, w1, r1, O1, f1, T1, TT, _⟩ := app_first ht hinf hz hsz (v0 := .slice (some ⟨w.heap.size + 1, 0, none⟩) 0 0) (T0.then_no TA) O (fun g q => by have e1 : w.heap.size + 1 = g := Option.some.inj q; omega) (hs _ (T0.then_no TA)) hb hm
  obtain ⟨v2, w2, r2, O2, T2, q2⟩ := app_second ht hinf hz hsz T1 O1 f1 (R.turn TT (fun q => by
    have e1 : w.heap.size + 1 = w.heap.size := Option.some.inj q
    omega)) hX h1 hb hm
  exact ⟨v1, w1, v2, w2, r1, T1, r2, T2, O2, q2⟩
end
end Go.Proofs.Ytmfphlagpifkaaa
