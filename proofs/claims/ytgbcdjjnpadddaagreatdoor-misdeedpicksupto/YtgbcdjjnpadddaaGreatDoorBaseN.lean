/- append onto an owned row whose elements take several cells. -/
import Derived.Test.YtgbcdjjnpadddaaGreatDoorBase
namespace Go.Proofs.YtgbcdjjnpadddaaGreatDoor
open Go.RowKit
set_option linter.unusedVariables false

def OwnN (w : World) (e : TypeId) (size : Nat) (v : Value) (n : Nat) (xs : List Value) : Prop := w.ownsRow 0 e size v n xs

theorem OwnN.nil (w : World) (e : TypeId) (size : Nat) : OwnN w e size (.slice none 0 0) 0 [] := World.ownsRow_nil w 0 e size

theorem OwnN.turn {S : Nat → Prop} {w w' : World} {e : TypeId} {size : Nat} {v : Value} {n : Nat} {xs : List Value} (h : OwnN w e size v n xs) (ht : Turn S w w') (hn : ∀ g, v.ownBlock = some g → ¬ S g) : OwnN w' e size v n xs := by
  refine ⟨h.1, ?_⟩
  rcases h.2 with q | ⟨g, cap, cur, hv, hb, hg, r⟩
  · exact Or.inl q
  · exact Or.inr ⟨g, cap, cur, hv, hb, ht.obj hg (hn g (by rw [hv]; rfl)), r⟩
theorem OwnN.turn_no {w w' : World} {e : TypeId} {size : Nat} {v : Value} {n : Nat} {xs : List Value} (h : OwnN w e size v n xs) (ht : Turn no w w') : OwnN w' e size v n xs := h.turn ht (fun _ _ q => q)
theorem OwnN.form {w : World} {e : TypeId} {size : Nat} {v : Value} {n : Nat} {xs : List Value} (h : OwnN w e size v n xs) : ∃ a cap, v = .slice a n cap ∧ (a = none → n = 0 ∧ cap = 0) ∧ n ≤ maxLen ∧ n ≤ cap ∧ cap ≤ maxLen := by
  rcases h.2 with ⟨rfl, rfl⟩ | ⟨g, cap, cur, rfl, _, _, h1, h2, _⟩
  · exact ⟨none, 0, rfl, fun _ => ⟨rfl, rfl⟩, by simp, by simp, by simp⟩
  · exact ⟨some ⟨g, 0, none⟩, cap, rfl, fun q => (by cases q), by omega, h1, h2⟩
theorem OwnN.lt {w : World} {e : TypeId} {size : Nat} {v : Value} {n : Nat} {xs : List Value} (h : OwnN w e size v n xs) {g : Nat} (hg : v.ownBlock = some g) : g < w.heap.size := (World.ownsRow.lt h g hg).2

section
variable {P : Program}

theorem run_append_srcN {t tx e : TypeId} {z : Value} {size bytes : Nat} (ht : P.underlying t = some (.slice e)) (hinf : (P.info? e).map (fun i => (i.zero, i.size, i.bytes)) = some (some z, size, bytes)) (hz : z.cells.size = size) (hsz : 0 < size)
    (ty : TypeId) (w : World) (v : Value) (n : Nat) (xs : List Value) (hown : OwnN w e size v n xs) (x : Value) (m : Nat) (news : List Value) (hs : Src P size tx x m news w) (hb : (n + m) * bytes ≤ 140737488355328) (hm : n + m ≤ maxLen) :
    ∃ v' w', (Builtin.append_ #[t, tx] ty #[v, x]).run P w = .ok v' w' ∧ OwnN w' e size v' (n + m) (xs ++ news) ∧ Grew w w' v v' := by
  obtain ⟨i, hi, hz0, hz1, hz2⟩ := info_parts hinf
  have hnl : news.length = m * size := hs.newsLen
  have hxl : xs.length = n * size := hown.1
  have h63 : n + m ≤ 9223372036854775807 := by simp only [maxLen] at hm; omega
  have hlen : (xs ++ news).length = (n + m) * size := by rw [List.length_append, hxl, hnl, Nat.add_mul]
  have grow : ∀ (base : Option Addr) (sCap : Nat), v = .slice base n sCap → (Builtin.firstCells size n (.slice base n sCap)).run P w.drew = .ok xs.toArray w.drew → sCap < n + m →
      ∃ v' w', (Builtin.append_ #[t, tx] ty #[v, x]).run P w = .ok v' w' ∧ OwnN w' e size v' (n + m) (xs ++ news) ∧ Grew w w' v v' := by
    intro base sCap hv hold hlt
    have hr := run_append_grow_src (P := P) w t tx ty e i z ht hi hz0 base n sCap xs (by rw [hz1]; exact hold) x m news (by rw [hz1]; exact hs) hlt (by omega) (growslice_fits hlt (by rw [hz2]; exact hb))
    have hge := grownCap_ge w (n + m) sCap e
    have hcm := grownCap_le_maxLen w (n + m) sCap e hm
    rw [hv]
    refine ⟨_, _, hr, ?_, ⟨⟨rfl, rfl, rfl, by simp, fun k hk _ => Below.heap_alloc w.drew _ k hk⟩, .inr ⟨w.heap.size, rfl, Nat.le_refl _, by simp⟩⟩⟩
    refine ⟨hlen, .inr ⟨w.heap.size, _, _, rfl, Nat.zero_le _, heap_alloc_new w.drew _, hge, hcm, ?_, ?_⟩⟩
    · simp only [Array.size_append, List.size_toArray, size_zeroCells, hz, hlen, ← Nat.add_mul]
      congr 1
      omega
    · simp only [Array.toList_append]
      rw [← hlen]
      exact List.take_left
  rcases hown.2 with ⟨rfl, rfl⟩ | ⟨g, cap, cur, rfl, _, hg, h1, h2, h3, h4⟩
  · have hx : xs = [] := List.eq_nil_of_length_eq_zero (by simpa using hxl)
    subst hx
    by_cases hn : m = 0
    · subst hn
      have hnn : news = [] := List.eq_nil_of_length_eq_zero (by simpa using hnl)
      subst hnn
      refine ⟨.slice none 0 0, w, ?_, OwnN.nil w e size, ⟨⟨rfl, rfl, rfl, Nat.le_refl _, fun _ _ _ => rfl⟩, .inl rfl⟩⟩
      have hc := hs.cells
      rcases hs.kind with ⟨e', hk⟩ | hk <;> simp [Builtin.append_, run_underlying ht, run_underlying hk, sizeOf, typeInfo, hi, hz1, hs.len, hc]
    · exact grow none 0 rfl (by simp [Builtin.firstCells]) (by omega)
  · by_cases hroom : n + m ≤ cap
    · have hfit : n * size + news.length ≤ cur.size := by rw [hnl, h3, ← Nat.add_mul]; exact Nat.mul_le_mul_right _ hroom
      have hst := run_storeCells_at P g (n * size) e news 0 cur w hg (by simpa using hfit) hs.one
      have hr : (Builtin.append_ #[t, tx] ty #[.slice (some ⟨g, 0, none⟩) n cap, x]).run P w = .ok (.slice (some ⟨g, 0, none⟩) (n + m) cap) (w.setRow g (cur.toList.take (n * size) ++ news ++ cur.toList.drop (n * size + news.length)).toArray) := by
        have hc := hs.cells
        simp only [Nat.add_zero] at hst
        rcases hs.kind with ⟨e', hk⟩ | hk <;> simp [Builtin.append_, run_underlying ht, run_underlying hk, sizeOf, typeInfo, hi, hz1, hs.len, hroom, hc, Addr.add_lit, hst]
      refine ⟨_, _, hr, ⟨hlen, .inr ⟨g, cap, _, rfl, Nat.zero_le _, setRow_heap w g cur _ e _ hg, hroom, h2, ?_, ?_⟩⟩, ⟨⟨rfl, rfl, rfl, by simp, fun k _ hk => setRow_other w g k _ (fun q => hk (by simp [Value.ownBlock, q]))⟩, .inl rfl⟩⟩
      · simp only [List.size_toArray, List.length_append, List.length_take, List.length_drop, Array.length_toList]
        omega
      · rw [h4, ← hlen]
        exact List.take_left
    · refine grow (some ⟨g, 0, none⟩) cap rfl ?_ (by omega)
      exact run_firstCells_some w.drew size n ⟨g, 0, none⟩ n cap xs hxl (fun j u hu => by
        have := World.ownsRow.cells hown (g := g) rfl j u hu
        simpa using this)

theorem wpList_append_srcN {ops : Array Oper} {rest : List Oper} {o : Oper} {a : Act} {w : World} {Q : Exit → Act → World → Prop} (hgd : o.guard = none) (s x : Operand) {t tx e : TypeId} {z : Value} {size bytes : Nat}
    (ho : o.op = .call { callee := .builtin .append, args := #[s, x], argTypes := #[t, tx] })
    (ht : P.underlying t = some (.slice e)) (hinf : (P.info? e).map (fun i => (i.zero, i.size, i.bytes)) = some (some z, size, bytes)) (hz : z.cells.size = size) (hsz : 0 < size)
    (v : Value) (k : Nat) (xs : List Value) (hs : a.eval s = v) (hown : OwnN w e size v k xs) (xv : Value) (n : Nat) (news : List Value) (hx : a.eval x = xv) (hsrc : Src P size tx xv n news w)
    (hb : (k + n) * bytes ≤ 140737488355328) (hm : k + n ≤ maxLen)
    (h : ∀ v' w', OwnN w' e size v' (k + n) (xs ++ news) → Grew w w' v v' → wpList P ops Q rest (a.put o.dst v') w') : wpList P ops Q (o :: rest) a w :=
  wpList_plain hgd fun K hK => by
    obtain ⟨v', w', hr, h2, h3⟩ := run_append_srcN (P := P) ht hinf hz hsz o.type w v k xs hown xv n news hsrc hb hm
    unfold Oper.wp execOp
    simp only [ho, resolve, invoke, builtin, Sem.run_bind, Sem.run_pure, Result.andThen_ok, List.map_toArray, List.map_cons, List.map_nil, hs, hx, hr]
    exact hK _ _ (h v' w' h2 h3)
end
end Go.Proofs.YtgbcdjjnpadddaaGreatDoor


