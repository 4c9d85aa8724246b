/- append to a slice of no room; copied. -/
import Derived.Test.YtdbfbdhnjbmmjaaA1
namespace Go.Proofs.Ytdbfbdhnjbmmjaa
open Go.RowKit
set_option linter.unusedVariables false

section
variable {P : Program}
/-- An append to what has no room takes new memory, wherever that lay. -/
theorem run_append_cut {t tx e : TypeId} {z : Value} {size bytes : Nat} (ht : P.underlying t = some (.slice e)) (hinf : (P.info? e).map (fun i => (i.zero, i.size, i.bytes)) = some (some z, size, bytes)) (hz : z.cells.size = size) (hsz : 0 < size)
    (ty : TypeId) (w : World) (base : Addr) (x : Value) (m : Nat) (news : List Value) (hs : Src P size tx x m news w) (h0 : 0 < m) (hb : m * bytes ≤ 140737488355328) (hm : m ≤ maxLen) :
    ∃ v' w', (Builtin.append_ #[t, tx] ty #[.slice (some base) 0 0, x]).run P w = .ok v' w' ∧ OwnN w' e size v' m news ∧ (∀ g, v'.ownBlock = some g → w.heap.size ≤ g) ∧ Turn no w w' := by
  obtain ⟨i, hi, hz0, hz1, hz2⟩ := info_parts hinf
  have hnl : news.length = m * size := hs.newsLen
  have h63 : m ≤ 9223372036854775807 := by simp only [maxLen] at hm; omega
  have hlt : 0 < 0 + m := by omega
  have hr := run_append_grow_src (P := P) w t tx ty e i z ht hi hz0 (some base) 0 0 [] (by rw [hz1]; exact run_firstCells_some w.drew size 0 base 0 0 [] (by simp) (fun j u hu => by simp at hu)) x m news (by rw [hz1]; exact hs) hlt (by omega) (growslice_fits hlt (by rw [hz2, Nat.zero_add]; exact hb))
  have hge := grownCap_ge w (0 + m) 0 e
  have hcm := grownCap_le_maxLen w (0 + m) 0 e (by omega)
  refine ⟨_, _, hr, ?_, fun g hg => by cases hg; exact Nat.le_refl _, ⟨rfl, rfl, rfl, by simp, fun k hk _ => Below.heap_alloc w.drew _ k hk⟩⟩
  refine ⟨hnl, .inr ⟨w.heap.size, _, _, by rw [Nat.zero_add], Nat.zero_le _, heap_alloc_new w.drew _, by omega, hcm, ?_, ?_⟩⟩
  · simp only [Array.size_append, List.size_toArray, size_zeroCells, hz, List.nil_append, hnl, ← Nat.add_mul]
    congr 1
    omega
  · simp only [Array.toList_append, List.nil_append]
    rw [← hnl]
    exact List.take_left
theorem wpList_append_cut {ops : Array Oper} {rest : List Oper} {o : Oper} {a : Act} {w : World} {Q : Exit → Act → World → Prop} (hgd : o.guard = none) (s x : Operand) {t tx e : TypeId} {z : Value} {size bytes : Nat}
    (ho : o.op = .call { callee := .builtin .append, args := #[s, x], argTypes := #[t, tx] })
    (ht : P.underlying t = some (.slice e)) (hinf : (P.info? e).map (fun i => (i.zero, i.size, i.bytes)) = some (some z, size, bytes)) (hz : z.cells.size = size) (hsz : 0 < size)
    (base : Addr) (hs : a.eval s = .slice (some base) 0 0) (xv : Value) (n : Nat) (news : List Value) (hx : a.eval x = xv) (hsrc : Src P size tx xv n news w) (h0 : 0 < n)
    (hb : n * bytes ≤ 140737488355328) (hm : n ≤ maxLen)
    (h : ∀ v' w', OwnN w' e size v' n news → (∀ g, v'.ownBlock = some g → w.heap.size ≤ g) → Turn no w w' → wpList P ops Q rest (a.put o.dst v') w') : wpList P ops Q (o :: rest) a w :=
  wpList_plain hgd fun K hK => by
    obtain ⟨v', w', hr, h2, h3, h4⟩ := run_append_cut (P := P) ht hinf hz hsz o.type w base xv n news hsrc h0 hb hm
    unfold Oper.wp execOp
    simp only [ho, resolve, invoke, builtin, Sem.run_bind, Sem.run_pure, Result.andThen_ok, List.map_toArray, List.map_cons, List.map_nil, hs, hx, hr]
    exact hK _ _ (h v' w' h2 h3 h4)
end
/-- Accounts' cells, one behind the other. -/
def acC (l : List Ac) : List Value := l.flatMap (fun m => [.int .u64 m.ad, .int .u64 m.bal, .int .u64 m.bond, .int .u64 m.nonce, .bool m.jail])
theorem acC_len (l : List Ac) : (acC l).length = l.length * 5 := by
  induction l with
  | nil => rfl
  | cons m r ih => simp only [acC, List.flatMap_cons, List.length_append, List.length_cons, List.length_nil] at ih ⊢; omega
theorem acC_at : ∀ (l : List Ac) (j : Nat) (m : Ac), l[j]? = some m → ∀ i, i < 5 → (acC l)[j * 5 + i]? = [Value.int .u64 m.ad, .int .u64 m.bal, .int .u64 m.bond, .int .u64 m.nonce, .bool m.jail][i]?
  | x :: r, 0, m, h, i, hi => by
    simp at h
    subst h
    rw [acC, List.flatMap_cons, Nat.zero_mul, Nat.zero_add, List.getElem?_append_left (by simpa using hi)]
  | x :: r, j + 1, m, h, i, hi => by
    rw [acC, List.flatMap_cons, List.getElem?_append_right (by simp; omega)]
    have := acC_at r j m (by simpa using h) i hi
    rw [acC] at this
    rw [← this]
    congr 1
    simp
    omega
theorem AsAt.src {w : World} {a : Addr} {cap : Nat} {l : List Ac} (h : AsAt w (some a) cap l) : Src Try.prog 5 22 (.slice (some a) l.length cap) l.length (acC l) w := by
  refine Src.ofSlice w Try.underlying22 a l.length cap (acC l) (acC_len l) (fun j u hu => ?_) (fun u hu => ?_)
  · have hj : j < l.length * 5 := by rw [← acC_len]; exact (List.getElem?_eq_some_iff.1 hu).1
    have hm : l[j / 5]? = some (l[j / 5]'(by omega)) := List.getElem?_eq_getElem (by omega)
    obtain ⟨b, off, e, c0, c1, c2, c3, c4⟩ := h.cells _ _ hm
    cases e
    have hx := acC_at l (j / 5) _ hm (j % 5) (by omega)
    have ej : j / 5 * 5 + j % 5 = j := by omega
    rw [ej, hu] at hx
    rw [Addr.add_lit]
    rcases (show j % 5 = 0 ∨ j % 5 = 1 ∨ j % 5 = 2 ∨ j % 5 = 3 ∨ j % 5 = 4 by omega) with q | q | q | q | q <;> rw [q] at hx <;> simp at hx <;> subst hx
    · rw [show off + j = off + j / 5 * 5 by omega]; exact c0
    · rw [show off + j = off + j / 5 * 5 + 1 by omega]; exact c1
    · rw [show off + j = off + j / 5 * 5 + 2 by omega]; exact c2
    · rw [show off + j = off + j / 5 * 5 + 3 by omega]; exact c3
    · rw [show off + j = off + j / 5 * 5 + 4 by omega]; exact c4
  · unfold acC at hu
    rw [List.mem_flatMap] at hu
    obtain ⟨m, _, hm⟩ := hu
    simp at hm
    rcases hm with rfl | rfl | rfl | rfl | rfl <;> rfl
/-- Accounts in a row of their own. -/
theorem OwnN.as {w : World} {v : Value} {l : List Ac} (h : OwnN w 39 5 v l.length (acC l)) (hok : ∀ m ∈ l, m.ok) : As w v l := by
  obtain ⟨a, cap, rfl, h0, h1, h2, h3⟩ := h.form
  refine ⟨a, cap, rfl, h2, h3, hok, fun j m hj => ?_⟩
  have hjl := (List.getElem?_eq_some_iff.1 hj).1
  rcases h.2 with ⟨_, q⟩ | ⟨g, cap', cur, e, _⟩
  · omega
  · cases e
    have hc : ∀ i u, (acC l)[i]? = some u → w.cell? ⟨g, i, none⟩ = some u := fun i u hu => by
      have := World.ownsRow.cells h (g := g) rfl i u hu
      simpa [Addr.add_lit] using this
    have hx := acC_at l j m hj
    refine ⟨g, 0, rfl, ?_, ?_, ?_, ?_, ?_⟩
    · rw [Nat.zero_add]; exact hc _ _ (by have := hx 0 (by omega); simpa using this)
    · rw [Nat.zero_add]; exact hc _ _ (by have := hx 1 (by omega); simpa using this)
    · rw [Nat.zero_add]; exact hc _ _ (by have := hx 2 (by omega); simpa using this)
    · rw [Nat.zero_add]; exact hc _ _ (by have := hx 3 (by omega); simpa using this)
    · rw [Nat.zero_add]; exact hc _ _ (by have := hx 4 (by omega); simpa using this)
theorem info39 : (Try.prog.info? 39).map (fun i => (i.zero, i.size, i.bytes)) = some (some (.agg #[.int .u64 0, .int .u64 0, .int .u64 0, .int .u64 0, .bool false]), 5, 40) := by kernel_rfl
set_option maxRecDepth 100000 in
set_option maxHeartbeats 2000000 in
theorem copied20 (w : World) (v : Value) (l : List Ac) (h : As w v l) (hl : l.length * 40 ≤ 140737488355328) : Calls Try.prog 20 #[v] w fun e w' => ∃ v', e = .returned v' ∧ OwnN w' 39 5 v' l.length (acC l) ∧ (∀ g, v'.ownBlock = some g → w.heap.size ≤ g) ∧ Turn no w w' := by
  obtain ⟨a, cap, rfl, h⟩ := h
  by_cases h0 : l = []
  · subst h0
    clear h
    go_enter Try.func20, Try.ntmps20
    go_wp2_with fail
    go_ret
    exact ⟨_, rfl, OwnN.nil w 39 5, (fun g hg => by cases hg), Turn.refl _ _⟩
  · have hpos : 0 < l.length := List.length_pos_iff.2 h0
    obtain ⟨b, off, rfl, _⟩ := h.cells 0 (l[0]'hpos) (List.getElem?_eq_getElem hpos)
    have hS := h.src
    have hle := h.le
    have hcp := h.cap
    clear h
    obtain ⟨n, hn⟩ : ∃ n, Hid (l.length = n) := ⟨_, rfl⟩
    have hn' : l.length = n := hn.out
    rw [hn'] at hl hS hle hpos
    rw [hn']
    clear hn'
    have hb0 : ((n : Int) == 0) = false := by simp; omega
    go_enter Try.func20, Try.ntmps20
    go_wp2_with (at_builtin; go_loud (refine wpList_append_cut rfl (.tmp 7) (.tmp 8) rfl Try.underlying22 info39 rfl (by omega) ⟨b, off, none⟩ rfl _ n _ rfl hS hpos (by omega) (by unfold maxLen; omega) ?_))
    intro v' w' O f t
    go_wp2_with fail
    go_ret
    exact ⟨_, rfl, O, f, t⟩
end Go.Proofs.Ytdbfbdhnjbmmjaa
