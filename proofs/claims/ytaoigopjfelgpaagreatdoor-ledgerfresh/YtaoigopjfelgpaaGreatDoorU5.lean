/- What Prove has laid together, as it may be written over. -/
import Derived.Test.YtaoigopjfelgpaaGreatDoorUa
import Derived.Test.YtaoigopjfelgpaaGreatDoorT8
namespace Go.Proofs.YtaoigopjfelgpaaGreatDoor
open Go.RowKit
set_option linter.unusedVariables false

theorem ov_of {B : Nat} {w : World} {l : List Ac} {ps : List Nat} {v1 v2 : Value} {xs : List Value} (h1 : An B w l ps v1) (h2 : Qn B w l ps v2 xs) :
    ∃ A M, Ov w ps.length v1 v2 A M ∧ (∀ j, j < ps.length → ∃ a c, A j = .slice a (M j) c ∧ M j ≤ maxLen) ∧ ∀ g, Ob ps.length v1 v2 A g → B ≤ g ∧ g < w.heap.size := by
  have key : ∀ j, j < ps.length → ∃ a c, xs[j * 3 + 2]? = some (.slice a (pfOf l (ps.getD j 0)).A.length c) ∧ Hn B w (pfOf l (ps.getD j 0)).A a c := fun j hj => by
    obtain ⟨a, c, q1, q2⟩ := h2.each j (ps.getD j 0) (by rw [List.getD_eq_getElem?_getD, List.getElem?_eq_getElem hj]; rfl)
    exact ⟨a, c, q1 2 _ rfl, q2⟩
  have keyA : ∀ j, j < ps.length → ∃ a c, xs.getD (j * 3 + 2) undef = .slice a (pfOf l (ps.getD j 0)).A.length c ∧ Hn B w (pfOf l (ps.getD j 0)).A a c := fun j hj => by
    obtain ⟨a, c, q1, q2⟩ := key j hj
    exact ⟨a, c, by rw [List.getD_eq_getElem?_getD, q1]; rfl, q2⟩
  refine ⟨fun j => xs.getD (j * 3 + 2) undef, fun j => (pfOf l (ps.getD j 0)).A.length, ⟨h1.own.wx, ?_, fun j hj => ?_⟩, fun j hj => ?_, fun g hg => ?_⟩
  · rcases h2.own.2 with ⟨rfl, q⟩ | ⟨g, cap, cur, rfl, _, hg, k1, k2, k3, k4⟩
    · exact Or.inl ⟨rfl, q⟩
    · refine Or.inr ⟨g, cap, cur, rfl, hg, k1, k2, by rw [k3]; exact Nat.mul_le_mul_right _ k1, fun j hj => ?_⟩
      obtain ⟨a, c, q1, _⟩ := key j hj
      have := World.ownsRow.cells h2.own (g := g) rfl (j * 3 + 2) _ q1
      rw [Addr.add_lit, Nat.zero_add, cell_of_row w g _ cur 53 (0, 0) hg] at this
      have e : xs.getD (j * 3 + 2) undef = .slice a (pfOf l (ps.getD j 0)).A.length c := by rw [List.getD_eq_getElem?_getD, q1]; rfl
      rw [this, e]
  · obtain ⟨a, c, q1, q2⟩ := keyA j hj
    simp only [q1]
    exact q2.own.wx
  · obtain ⟨a, c, q1, q2⟩ := keyA j hj
    obtain ⟨a', c', e, q⟩ := q2.own.wx.form
    exact ⟨a, c, q1, q⟩
  · rcases hg with q | q | ⟨j, hj, q⟩
    · exact ⟨h1.new g q, h1.own.lt q⟩
    · exact ⟨h2.new g q, h2.own.lt q⟩
    · obtain ⟨a, c, q1, q2⟩ := keyA j hj
      simp only [q1] at q
      exact ⟨q2.new g q, q2.own.lt q⟩
theorem wto_arr {w : World} {B : Nat} {V : Value} {l : List Ac} {x : Nat} {R : List UInt8} (hR : R.length = 32) (h : WtO w B V l x R) : ∃ VA, V = .agg VA ∧ VA.size = 34 ∧ VA.all (·.oneCell') = true ∧ (Tryz.prog.info? 43).map (·.size) = some VA.size := by
  obtain ⟨c, v1, v2, rfl, _, _, h3, ⟨xs, h4⟩, _⟩ := h
  obtain ⟨a, n, rfl, _⟩ := h3.own.form
  obtain ⟨a', n', rfl, _⟩ := h4.own.form
  have q := wt_wt R hR
  exact ⟨_, rfl, q.size _ _, q.one _ _ _ _ _ _, q.info _ _⟩
theorem wto_ov {w : World} {B : Nat} {VA : Array Value} {l : List Ac} {x : Nat} {R : List UInt8} (hR : R.length = 32) (h : WtO w B (.agg VA) l x R) :
    ∃ n a1 c1 a2 c2 A M, n ≤ 2 ∧ VA[32]? = some (.slice a1 n c1) ∧ VA[33]? = some (.slice a2 n c2) ∧ Ov w n (.slice a1 n c1) (.slice a2 n c2) A M ∧ (∀ j, j < n → ∃ a c, A j = .slice a (M j) c ∧ M j ≤ maxLen) ∧ ∀ g, Ob n (.slice a1 n c1) (.slice a2 n c2) A g → B ≤ g ∧ g < w.heap.size := by
  obtain ⟨c, v1, v2, e, _, _, h3, ⟨xs, h4⟩, _⟩ := h
  obtain ⟨A, M, k1, k2, k3⟩ := ov_of h3 h4
  obtain ⟨a, n, e1, _⟩ := h3.own.form
  obtain ⟨a', n', e2, _⟩ := h4.own.form
  have hl := shN_len l x c
  injection e with e
  subst e
  subst e1
  subst e2
  exact ⟨_, a, n, a', n', A, M, hl, wtL_32 hR _ _, by rw [List.getElem?_toArray, wtL, List.getElem?_append_right (by simp [hR])]; simp [hR], k1, k2, k3⟩
end Go.Proofs.YtaoigopjfelgpaaGreatDoor
