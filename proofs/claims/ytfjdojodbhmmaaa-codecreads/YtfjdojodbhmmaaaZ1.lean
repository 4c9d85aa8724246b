/- Bytes that may be written over, whatever mark their row bears. -/
import Derived.Test.YtfjdojodbhmmaaaBase
namespace Go.Proofs.Ytfjdojodbhmmaaa
open Go.RowKit
set_option linter.unusedVariables false

/-- A slice of n bytes that may be written over, its room too. -/
def Wb (w : World) (v : Value) (n : Nat) : Prop :=
  (v = .slice none 0 0 ∧ n = 0) ∨ ∃ g cap, v = .slice (some ⟨g, 0, none⟩) n cap ∧ g < w.heap.size ∧ n ≤ cap ∧ cap ≤ maxLen ∧ ∀ j, j < cap → (∃ u, w.cell? ⟨g, j, none⟩ = some (.int .u8 u)) ∧ w.frozen? ⟨g, j, none⟩ = false
theorem Wb.lt {w : World} {v : Value} {n : Nat} (h : Wb w v n) {g : Nat} (hg : v.ownBlock = some g) : g < w.heap.size := by
  rcases h with ⟨rfl, _⟩ | ⟨g', cap, rfl, hgl, _⟩
  · cases hg
  · cases hg; exact hgl
theorem Wb.form {w : World} {v : Value} {n : Nat} (h : Wb w v n) : ∃ a cap, v = .slice a n cap ∧ (0 < n → ∃ g, a = some ⟨g, 0, none⟩) := by
  rcases h with ⟨rfl, rfl⟩ | ⟨g, cap, rfl, _⟩
  · exact ⟨none, 0, rfl, fun q => by omega⟩
  · exact ⟨_, cap, rfl, fun _ => ⟨g, rfl⟩⟩
theorem Wb.turn_no {w w' : World} {v : Value} {n : Nat} (h : Wb w v n) (ht : Turn no w w') : Wb w' v n := by
  rcases h with q | ⟨g, cap, rfl, hgl, h1, h2, h3⟩
  · exact .inl q
  · refine .inr ⟨g, cap, rfl, Nat.lt_of_lt_of_le hgl ht.size, h1, h2, fun j hj => ?_⟩
    obtain ⟨⟨u, hu⟩, hf⟩ := h3 j hj
    exact ⟨⟨u, ht.keep hu (fun q => q)⟩, by rw [ht.frozen (World.block_lt_of_cell? w _ hu) (fun q => q)]; exact hf⟩
theorem Wb.set {w : World} {g n cap : Nat} (h : Wb w (.slice (some ⟨g, 0, none⟩) n cap) n) (i : Nat) (x : Int) : Wb (w.setCell ⟨g, i, none⟩ (.int .u8 x)) (.slice (some ⟨g, 0, none⟩) n cap) n := by
  rcases h with ⟨q, _⟩ | ⟨g', cap', e, hgl, h1, h2, h3⟩
  · cases q
  · cases e
    refine .inr ⟨g, cap, rfl, by simpa [World.setCell] using hgl, h1, h2, fun j hj => ?_⟩
    obtain ⟨⟨u, hu⟩, hf⟩ := h3 j hj
    refine ⟨?_, by rw [World.frozen?_setCell]; exact hf⟩
    by_cases hji : j = i
    · subst hji
      exact ⟨x, World.cell?_setCell_same w _ _ hu⟩
    · exact ⟨u, by rw [World.cell?_setCell_other w]; exact hu; intro q; cases q; exact hji rfl⟩
theorem Wb.of_own {w : World} {v : Value} {xs : List UInt8} (h : Own w 5 v (xs.map bv)) (hc : ∀ g n cap cur, v = .slice (some ⟨g, 0, none⟩) n cap → w.heap[g]? = some (.cells cur 5 (0, 0)) → ∀ u ∈ cur.toList, ∃ x, u = .int .u8 x) : Wb w v xs.length := by
  rcases h.shape with ⟨rfl, q⟩ | ⟨g, cap, cur, rfl, hg, h1, h2, h3, h4⟩
  · exact .inl ⟨rfl, by simpa using congrArg List.length q⟩
  · refine .inr ⟨g, cap, by simp, lt_of_obj hg, by simpa using h1, h2, fun j hj => ⟨?_, frozen_of_row w g j cur 5 hg⟩⟩
    rw [cell_of_row w g j cur 5 (0, 0) hg, Array.getElem?_eq_getElem (by omega)]
    obtain ⟨x, hx⟩ := hc g _ cap cur rfl hg cur[j] (by simp)
    exact ⟨x, by rw [hx]⟩
section
variable {P : Program}
theorem run_append_wb {t tx e : TypeId} {bytes : Nat} (ht : P.underlying t = some (.slice e)) (hinf : (P.info? e).map (fun i => (i.zero, i.size, i.bytes)) = some (some (.int .u8 0), 1, bytes))
    (ty : TypeId) (w : World) (v : Value) (k : Nat) (hown : Wb w v k) (x : Value) (y : Int) (hs : Src P 1 tx x 1 [.int .u8 y] w) (hb : (k + 1) * bytes ≤ 140737488355328) (hm : k + 1 ≤ maxLen) :
    ∃ v' w', (Builtin.append_ #[t, tx] ty #[v, x]).run P w = .ok v' w' ∧ Wb w' v' (k + 1) ∧ Turn (fun g => v.ownBlock = some g) w w' ∧ (v'.ownBlock = v.ownBlock ∨ ∃ g, v'.ownBlock = some g ∧ w.heap.size ≤ g) := by
  obtain ⟨i, hi, hz0, hz1, hz2⟩ := info_parts hinf
  have h63 : k + 1 ≤ 9223372036854775807 := by simp only [maxLen] at hm; omega
  have grow : ∀ (base : Option Addr) (sCap : Nat) (xs : List Int), xs.length = k → v = .slice base k sCap → (Builtin.firstCells 1 k (.slice base k sCap)).run P w.drew = .ok (xs.map fun u => Value.int .u8 u).toArray w.drew → sCap < k + 1 →
      ∃ v' w', (Builtin.append_ #[t, tx] ty #[v, x]).run P w = .ok v' w' ∧ Wb w' v' (k + 1) ∧ Turn (fun g => v.ownBlock = some g) w w' ∧ (v'.ownBlock = v.ownBlock ∨ ∃ g, v'.ownBlock = some g ∧ w.heap.size ≤ g) := by
    intro base sCap xs hxs hv hold hlt
    have hr := run_append_grow_src (P := P) w t tx ty e i (.int .u8 0) ht hi hz0 base k sCap (xs.map fun u => Value.int .u8 u) (by rw [hz1]; exact hold) x 1 [.int .u8 y] (by rw [hz1]; exact hs) hlt (by omega) (growslice_fits hlt (by rw [hz2]; exact hb))
    have hge := grownCap_ge w (k + 1) sCap e
    have hcm := grownCap_le_maxLen w (k + 1) sCap e hm
    rw [hv]
    refine ⟨_, _, hr, .inr ⟨w.heap.size, _, rfl, by simp, hge, hcm, fun j hj => ?_⟩, (Turn.refl _ w).drew.alloc _, .inr ⟨w.heap.size, rfl, Nat.le_refl _⟩⟩
    have hg := heap_alloc_new w.drew (.cells ((xs.map (fun u => Value.int .u8 u) ++ [Value.int .u8 y]).toArray ++ Builtin.zeroCells (Value.int .u8 0).cells (grownCap w (k + 1) sCap e - (k + 1))) e)
    have hg2 : (w.drew.alloc (.cells ((xs.map (fun u => Value.int .u8 u) ++ [Value.int .u8 y]).toArray ++ Builtin.zeroCells (Value.int .u8 0).cells (grownCap w (k + 1) sCap e - (k + 1))) e)).heap[w.heap.size]? = some (.cells ((xs.map (fun u => Value.int .u8 u) ++ [Value.int .u8 y]).toArray ++ Builtin.zeroCells (Value.int .u8 0).cells (grownCap w (k + 1) sCap e - (k + 1))) e (0, 0)) := hg
    refine ⟨?_, frozen_of_row _ w.heap.size j _ e hg2⟩
    rw [cell_of_row _ w.heap.size j _ e (0, 0) hg2]
    have hz : Builtin.zeroCells (Value.int .u8 0).cells (grownCap w (k + 1) sCap e - (k + 1)) = Array.replicate (grownCap w (k + 1) sCap e - (k + 1)) (.int .u8 0) := by
      simp only [Builtin.zeroCells, Value.cells]
      apply Array.ext
      · simp
      · intro a h1 h2
        simp [Nat.mod_one]
    rw [hz, Array.getElem?_append]
    split
    · rename_i hlt2
      rw [Array.getElem?_eq_getElem hlt2]
      have : ((xs.map (fun u => Value.int .u8 u) ++ [Value.int .u8 y]).toArray)[j] ∈ (xs.map (fun u => Value.int .u8 u) ++ [Value.int .u8 y]) := by simp
      simp only [List.mem_append, List.mem_map, List.mem_singleton] at this
      rcases this with ⟨u, _, hu⟩ | hu
      · exact ⟨u, by rw [← hu]⟩
      · exact ⟨y, by rw [hu]⟩
    · rename_i hge2
      simp at hge2
      rw [Array.getElem?_replicate, if_pos (by simp; omega)]
      exact ⟨0, rfl⟩
  rcases hown with ⟨rfl, rfl⟩ | ⟨g, cap, rfl, hgl, h1, h2, h3⟩
  · exact grow none 0 [] rfl rfl (by simp [Builtin.firstCells]) (by omega)
  · by_cases hroom : k + 1 ≤ cap
    · obtain ⟨⟨u, hu⟩, hf⟩ := h3 k (by omega)
      have hst : (storeCells (⟨g, k, none⟩ : Addr) [Value.int .u8 y]).run P w = .ok () (w.setCell ⟨g, k, none⟩ (.int .u8 y)) := by
        have := run_store P w ⟨g, k, none⟩ (.int .u8 y) .plain rfl
        rw [hu, hf] at this
        simp [storeCells, Addr.add_lit, this]
      have hr : (Builtin.append_ #[t, tx] ty #[.slice (some ⟨g, 0, none⟩) k cap, x]).run P w = .ok (.slice (some ⟨g, 0, none⟩) (k + 1) cap) (w.setCell ⟨g, k, none⟩ (.int .u8 y)) := by
        have hc := hs.cells
        rcases hs.kind with ⟨e', hk⟩ | hk <;> simp [Builtin.append_, run_underlying ht, run_underlying hk, sizeOf, typeInfo, hi, hz1, hs.len, hroom, hc, Addr.add_lit, hst]
      refine ⟨_, _, hr, ?_, Turn.setCell (p := ⟨g, k, none⟩) (Turn.refl (fun h => (Value.slice (some ⟨g, 0, none⟩) k cap).ownBlock = some h) w) (fun _ => rfl) _, .inl rfl⟩
      have := (Wb.set (w := w) (g := g) (n := k) (cap := cap) (.inr ⟨g, cap, rfl, hgl, h1, h2, h3⟩) k y)
      rcases this with ⟨q, _⟩ | ⟨g', cap', e1, hgl', _, _, h3'⟩
      · cases q
      · cases e1
        exact .inr ⟨g, cap, rfl, hgl', hroom, h2, h3'⟩
    · have hcap : cap = k := by omega
      subst hcap
      have hx : ∀ n, n ≤ cap → ∃ xs : List Int, xs.length = n ∧ ∀ j u, xs[j]? = some u → w.cell? ⟨g, j, none⟩ = some (.int .u8 u) := by
        intro n
        induction n with
        | zero => intro _; exact ⟨[], rfl, fun j u hu => by simp at hu⟩
        | succ n ih =>
          intro hn
          obtain ⟨xs, hl, hx⟩ := ih (by omega)
          obtain ⟨⟨u, hu⟩, _⟩ := h3 n (by omega)
          refine ⟨xs ++ [u], by simp [hl], fun j z hz => ?_⟩
          rw [List.getElem?_append] at hz
          split at hz
          · exact hx j z hz
          · rename_i hj
            have : j = n := by
              rcases Nat.lt_or_ge n j with q | q
              · rw [List.getElem?_eq_none (by simp; omega)] at hz; cases hz
              · omega
            subst this
            rw [hl, Nat.sub_self] at hz
            simp at hz
            subst hz
            exact hu
      obtain ⟨xs, hl, hx⟩ := hx cap (Nat.le_refl _)
      refine grow (some ⟨g, 0, none⟩) cap xs hl rfl ?_ (by omega)
      exact run_firstCells_some w.drew 1 cap ⟨g, 0, none⟩ cap cap (xs.map fun u => Value.int .u8 u) (by simp [hl]) (fun j u hu => by
        rw [List.getElem?_map] at hu
        cases hb : xs[j]? with
        | none => rw [hb] at hu; cases hu
        | some b =>
          rw [hb] at hu
          cases hu
          rw [Addr.add_lit]
          simpa using hx j b hb)
theorem wpList_append_wb {ops : Array Oper} {rest : List Oper} {o : Oper} {a : Act} {w : World} {Q : Exit → Act → World → Prop} (hgd : o.guard = none) (s x : Operand) {t tx e : TypeId} {bytes : Nat}
    (ho : o.op = .call { callee := .builtin .append, args := #[s, x], argTypes := #[t, tx] })
    (ht : P.underlying t = some (.slice e)) (hinf : (P.info? e).map (fun i => (i.zero, i.size, i.bytes)) = some (some (.int .u8 0), 1, bytes))
    (v : Value) (k : Nat) (hs : a.eval s = v) (hown : Wb w v k) (xv : Value) (y : Int) (hx : a.eval x = xv) (hsrc : Src P 1 tx xv 1 [.int .u8 y] w)
    (hb : (k + 1) * bytes ≤ 140737488355328) (hm : k + 1 ≤ maxLen)
    (h : ∀ v' w', Wb w' v' (k + 1) → Turn (fun g => v.ownBlock = some g) w w' → (v'.ownBlock = v.ownBlock ∨ ∃ g, v'.ownBlock = some g ∧ w.heap.size ≤ g) → wpList P ops Q rest (a.put o.dst v') w') : wpList P ops Q (o :: rest) a w :=
  wpList_plain hgd fun K hK => by
    obtain ⟨v', w', hr, h2, h3, h4⟩ := run_append_wb (P := P) ht hinf o.type w v k hown xv y hsrc hb hm
    unfold Oper.wp execOp
    simp only [ho, resolve, invoke, builtin, Sem.run_bind, Sem.run_pure, Result.andThen_ok, List.map_toArray, List.map_cons, List.map_nil, hs, hx, hr]
    exact hK _ _ (h v' w' h2 h3 h4)
end
end Go.Proofs.Ytfjdojodbhmmaaa
