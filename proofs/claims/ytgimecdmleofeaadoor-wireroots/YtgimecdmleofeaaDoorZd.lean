/- Texts in one. -/
import Derived.Test.YtgimecdmleofeaaDoorZc
import Derived.Test.YtgimecdmleofeaaDoorBaseN
/- What the law lends: a list, two marks behind it. -/
namespace Go.Proofs.YtgimecdmleofeaaDoor
open Go.RowKit
set_option linter.unusedVariables false

theorem tag38 (w : World) (n : Nat) (hn : n ≤ 2) : Calls Tryd.prog 38 #[.int .i64 n] w fun e w' => e = .returned (.int .u64 ((7700 + n : Nat) : Int)) ∧ w = w' := by
  have h1 : IntKind.i64.wrap (7700 + (n : Int)) = 7700 + (n : Int) := by rw [IntKind.wrap_i64]; omega
  have h2 : IntKind.u64.wrap (7700 + (n : Int)) = 7700 + (n : Int) := by rw [IntKind.wrap_u64]; omega
  go_enter Tryd.func38, Tryd.ntmps38
  go_wp2_with fail
  go_ret
  exact ⟨by simp, rfl⟩
theorem ownN_empty (w : World) (e : TypeId) (sz : Nat) : OwnN (w.alloc (.cells #[] e)) e sz (.slice (some ⟨w.heap.size, 0, none⟩) 0 0) 0 [] :=
  ⟨by simp, .inr ⟨w.heap.size, 0, #[], rfl, Nat.zero_le _, heap_alloc_new w _, Nat.le_refl _, by simp, by simp, by simp⟩⟩
def flatE (L : List El) : List Value := L.flatMap (·.cs)
theorem flatE_len {sz : Nat} : ∀ (L : List El), (∀ x ∈ L, x.cs.length = sz) → (flatE L).length = L.length * sz
  | [], _ => by simp [flatE]
  | x :: r, h => by
    have ih := flatE_len r (fun y hy => h y (by simp [hy]))
    have hx := h x (by simp)
    simp only [flatE, List.flatMap_cons, List.length_append, List.length_cons] at *
    rw [ih, hx, Nat.add_mul]
    omega
theorem flatE_at {sz : Nat} : ∀ (L : List El), (∀ x ∈ L, x.cs.length = sz) → ∀ (j : Nat) (x : El), L[j]? = some x → ∀ i, i < sz → (flatE L)[j * sz + i]? = x.cs[i]?
  | x :: r, h, 0, y, e, i, hi => by
    simp at e
    subst e
    rw [flatE, List.flatMap_cons, Nat.zero_mul, Nat.zero_add, List.getElem?_append_left (by rw [h x (by simp)]; exact hi)]
  | x :: r, h, j + 1, y, e, i, hi => by
    have hx := h x (by simp)
    have ih := flatE_at r (fun z hz => h z (by simp [hz])) j y (by simpa using e) i hi
    rw [flatE, List.flatMap_cons, List.getElem?_append_right (by rw [hx, Nat.add_mul]; omega), hx]
    rw [show (j + 1) * sz + i - sz = j * sz + i by rw [Nat.add_mul]; omega]
    exact ih
theorem flatE_one {L : List El} (h : ∀ x ∈ L, ∀ u ∈ x.cs, u.oneCell' = true) : ∀ u ∈ flatE L, u.oneCell' = true := by
  intro u hu
  obtain ⟨x, hx, hu⟩ := List.mem_flatMap.1 hu
  exact h x hx u hu
/-- A list as what is appended. -/
theorem TsAt.src {w : World} {sz : Nat} {a : Option Addr} {cap : Nat} {L : List El} {t e : TypeId} (hu : Tryd.prog.underlying t = some (.slice e)) (hsz : 0 < sz) (h : TsAt w sz a cap L) : Src Tryd.prog sz t (.slice a L.length cap) L.length (flatE L) w := by
  cases L with
  | nil =>
    cases a with
    | none => exact Src.ofNil w hu cap
    | some x => exact Src.ofSlice w hu x 0 cap [] (by simp) (fun j u q => by simp at q) (fun u q => by cases q)
  | cons x r =>
    obtain ⟨b, off, rfl, _⟩ := h.cells 0 x rfl
    refine Src.ofSlice w hu _ _ _ _ (flatE_len _ h.len) (fun j u hu => ?_) (flatE_one h.one)
    have hj : j < (x :: r).length * sz := by rw [← flatE_len _ h.len]; exact (List.getElem?_eq_some_iff.1 hu).1
    have hq : j / sz < (x :: r).length := (Nat.div_lt_iff_lt_mul hsz).2 hj
    obtain ⟨b', off', e', c⟩ := h.cells (j / sz) _ (List.getElem?_eq_getElem hq)
    cases e'
    have hm : j % sz < sz := Nat.mod_lt _ hsz
    have hx := flatE_at _ h.len (j / sz) _ (List.getElem?_eq_getElem hq) (j % sz) hm
    have ej : j / sz * sz + j % sz = j := by rw [Nat.mul_comm]; exact Nat.div_add_mod j sz
    rw [ej, hu] at hx
    rw [Addr.add_lit]
    have := c (j % sz) u hx.symm
    rwa [show off + j / sz * sz + j % sz = off + j by omega] at this
end Go.Proofs.YtgimecdmleofeaaDoor

/- lentCert. -/
namespace Go.Proofs.YtgimecdmleofeaaDoor
open Go.RowKit
set_option linter.unusedVariables false

theorem ctL_size (h : Nat) (r : Int) (id : List UInt8) (hid : id.length = 32) (v : Value) : (ctL h r id v).toArray.size = 35 := by simpa using ctL_len h r id hid v
theorem wpList_append_run {P : Program} {ops : Array Oper} {rest : List Oper} {o : Oper} {a : Act} {w : World} {Q : Exit → Act → World → Prop} (hgd : o.guard = none) (s x : Operand) {t tx : TypeId}
    (ho : o.op = .call { callee := .builtin .append, args := #[s, x], argTypes := #[t, tx] }) (v xv : Value) (hs : a.eval s = v) (hx : a.eval x = xv) {v' : Value} {w' : World}
    (hr : (Builtin.append_ #[t, tx] o.type #[v, xv]).run P w = .ok v' w') (h : wpList P ops Q rest (a.put o.dst v') w') : wpList P ops Q (o :: rest) a w :=
  wpList_plain hgd fun K hK => by
    unfold Oper.wp execOp
    simp only [ho, resolve, invoke, builtin, Sem.run_bind, Sem.run_pure, Result.andThen_ok, List.map_toArray, List.map_cons, List.map_nil, hs, hx, hr]
    exact hK _ _ h
def tgM (n : Nat) : List Value := mkL ⟨0, 7700 + n, List.replicate 16 0⟩
theorem info108 : (Tryd.prog.info? 108).map (fun i => (i.zero, i.size, i.bytes)) = some (some (.agg Z50), 18, 32) := by kernel_rfl
theorem built108 (n : Nat) : Tryd.prog.built 108 [(1, .int .u64 ((7700 + n : Nat) : Int))] = some (tgM n).toArray := by kernel_rfl
section
variable {P : Program} {ops : Array Oper} {rest : List Oper} {o : Oper} {a : Act} {w : World} {Q : Exit → Act → World → Prop}
theorem wpList_build1 (hg : o.guard = none) (t : TypeId) (i : Nat) (x : Operand) (ho : o.op = .build t #[(i, x)]) (v : Value) (hx : a.eval x = v) (cells : Array Value)
    (hf : P.built t [(i, v)] = some cells) (h : wpList P ops Q rest (a.put o.dst (.agg cells)) w) : wpList P ops Q (o :: rest) a w :=
  wpList_build hg t #[(i, x)] ho (by simp [hx, hf]) (by simpa [hx, hf] using h)
theorem wpList_bsliceA (hg : o.guard = none) (t e : TypeId) (size : Nat) (x0 : Operand) (ho : o.op = .buildSlice t 1 #[(0, x0)]) (A : Array Value) (e0 : a.eval x0 = .agg A)
    (h1 : A.size = size) (hs : 0 < size) (hsm : 1 * size ≤ 2 ^ 24)
    (hu : P.underlying t = some (.slice e)) (hi : (P.info? e).map (·.size) = some size) (hz : ((P.info? e).bind (·.zero)).isSome = true)
    (h : wpList P ops Q rest (a.put o.dst (.slice (some ⟨w.heap.size, 0, none⟩) 1 1)) (w.alloc (.cells A e))) : wpList P ops Q (o :: rest) a w := by
  refine wpList_bsliceW hg t e 1 size _ ho [.agg A] (by simp [e0]) rfl (fun v hv => ?_) hs (by omega) hsm hu hi hz ?_
  · simp at hv; subst hv; simpa [Value.cells] using h1
  · simpa [Value.cells] using h
end
/-- A load of a whole block. -/
theorem wpList_load_rowN {P : Program} {ops : Array Oper} {rest : List Oper} {o : Oper} {a : Act} {w : World} {Q : Exit → Act → World → Prop} (hgd : Region.wanted o (yielded ops a.tmps) = true) (ty : TypeId) (x : Operand) (ho : o.op = .load ty x) (g : Nat) (hx : a.eval x = .pointer (some ⟨g, 0, none⟩)) (t : TypeId) (cs : Array Value) (d : TypeDesc) (hg : Row w g cs t)
    (hu : P.underlying ty = some d) (hd : d.isRow = true) (hi : (P.info? ty).map (·.size) = some cs.size)
    (h : wpList P ops Q rest (a.put o.dst (.agg cs)) w) : wpList P ops Q (o :: rest) a w := by
  have hc : w.rangeAt g 0 cs.toList := fun j v hv => by
    rw [Nat.zero_add]
    exact hg.cell j v (by simpa using hv)
  exact wpList_load_midG (P := P) (ops := ops) (rest := rest) (Q := Q) hgd ty x ho g 0 hx cs.toList d hc hu hd (by simpa using hi) (by simpa using h)
theorem src_el {t e : TypeId} (hu : Tryd.prog.underlying t = some (.slice e)) (w : World) (E : List Value) (sz : Nat) (hE : E.length = sz) (h1 : ∀ u ∈ E, u.oneCell' = true) : Src Tryd.prog sz t (.slice (some ⟨w.heap.size, 0, none⟩) 1 1) 1 E (w.alloc (.cells E.toArray e)) := by
  refine Src.ofSlice _ hu _ _ _ _ (by omega) (fun j u hj => ?_) h1
  rw [Addr.add_lit, cell_of_row _ w.heap.size (0 + j) E.toArray e (0, 0) (heap_alloc_new w _)]
  simpa using hj
theorem ctL_oneA (h : Nat) (r : Int) (id : List UInt8) (v : Value) (hv : v.oneCell' = true := by rfl) : (ctL h r id v).toArray.all (·.oneCell') = true := by
  simp only [List.all_toArray, List.all_eq_true, ctL, List.mem_cons, List.mem_append, List.mem_map, List.not_mem_nil, or_false]
  rintro x (rfl | rfl | ⟨b, _, rfl⟩ | rfl)
  · rfl
  · rfl
  · rfl
  · exact hv
theorem tgM_len (n : Nat) : (tgM n).length = 18 := rfl
theorem tgM_one (n : Nat) : ∀ u ∈ tgM n, u.oneCell' = true := mkL_one _
theorem zero34 (w : World) : (zeroValue 34).run Tryd.prog w = .ok (.agg (ctL 0 0 zid (.slice none 0 0)).toArray) w := by kernel_rfl
/-- The marks behind a list. -/
def tgs (k : Nat) : List Value := (List.range k).flatMap tgM
theorem tgs_succ (k : Nat) : tgs (k + 1) = tgs k ++ tgM k := by simp [tgs, List.range_succ]
theorem ownN_some {w w' : World} {e : TypeId} {sz : Nat} {v v' : Value} {n : Nat} {xs : List Value} (O : OwnN w' e sz v' n xs) (G : Grew w w' v v') (hv : ∃ g, v.ownBlock = some g) : ∃ g cp, v' = .slice (some ⟨g, 0, none⟩) n cp ∧ n ≤ cp ∧ cp ≤ maxLen := by
  rcases O.2 with ⟨rfl, _⟩ | ⟨g, cap, cur, rfl, _, _, h1, h2, _⟩
  · obtain ⟨g0, hg0⟩ := hv
    rcases G.blk with q | ⟨g, q, _⟩
    · rw [hg0] at q; cases q
    · cases q
  · exact ⟨g, cap, rfl, h1, h2⟩
theorem ctL_set (h : Nat) (r : Int) (id : List UInt8) (hid : id.length = 32) (v u : Value) : (ctL h r id v).toArray.setIfInBounds 34 u = (ctL h r id u).toArray := by
  simp [ctL, hid]
set_option maxRecDepth 100000 in
set_option maxHeartbeats 8000000 in
theorem lentCert39 (w : World) (h : Nat) (r : Int) (id : List UInt8) (hid : id.length = 32) (a : Option Addr) (cap : Nat) (L : List El) (hT : TsAt w 18 a cap L) (hb : (L.length + 2) * 32 ≤ 140737488355328) :
    Calls Tryd.prog 39 #[.agg (ctL h r id (.slice a L.length cap)).toArray] w fun e w' => ∃ g cp, e = .returned (.agg (ctL h r id (.slice (some ⟨g, 0, none⟩) L.length cp)).toArray) ∧ OwnN w' 108 18 (.slice (some ⟨g, 0, none⟩) (L.length + 2) cp) (L.length + 2) (flatE L ++ tgs 2) ∧ w.heap.size ≤ g ∧ Turn no w w' := by
  have hz34 := zero34
  obtain ⟨w2, hw2⟩ : ∃ W, (w.alloc (.cells (ctL h r id (.slice a L.length cap)).toArray 34)).alloc (.cells (ctL 0 0 zid (.slice none 0 0)).toArray 34) = W := ⟨_, rfl⟩
  have r1 : Row w2 w.heap.size (ctL h r id (.slice a L.length cap)).toArray 34 := by rw [← hw2]; exact (Row.new w _ 34).alloc _
  have r2 : Row w2 (w.heap.size + 1) (ctL 0 0 zid (.slice none 0 0)).toArray 34 := by rw [← hw2]; exact Row.newAt _ _ 34 _ (by simp)
  have t2 : Turn no w w2 := by rw [← hw2]; exact ((Turn.refl no w).alloc _).alloc _
  have c34 := r1.cell 34 _ (ctL_34 h r id hid _)
  have hsr := (hT.turn_no (t2.alloc (.cells #[] 108))).src (t := 32) Tryd.underlying32 (by omega)
  have hle : L.length ≤ 9223372036854775807 := by have := hT.le; have := hT.cap; simp only [maxLen] at this; omega
  have HR1 := shut r1
  have H2S : Shut (w2.heap.size = w.heap.size + 2) := ⟨by rw [← hw2]; simp⟩
  have HT2 := shut t2
  have HR2 := shut r2
  have HID := shut hid
  clear r1 r2 hT
  obtain ⟨n, hln⟩ : ∃ n, Hid (L.length = n) := ⟨_, rfl⟩
  rw [show L.length = n from hln.out] at hsr c34 hle hb HR1 hw2 ⊢
  generalize hC : (ctL h r id (.slice a n cap)).toArray = C at *
  have HC := shut hC
  clear hC
  generalize hZ : (ctL 0 0 zid (.slice none 0 0)).toArray = Z at *
  have HZ := shut hZ
  clear hZ
  go_enter Tryd.func39, Tryd.ntmps39
  go_upto_region 1 with fail
  try rw [hw2]
  clear hw2 hz34
  have O0 := ownN_empty w2 108 18
  have c34b := ((Turn.refl no w2).alloc (.cells #[] 108)).keep c34 (fun q => q)
  go_upto_region 3 with (first | (at_builtin; go_must (refine wpList_append_srcN rfl (.tmp 9) (.tmp 11) rfl Tryd.underlying32 info108 rfl (by omega) _ 0 [] rfl O0 _ n (flatE L) rfl hsr (by omega) (by simp only [maxLen]; omega) ?_; intro v3 w3 O3 G3)))

  have O3 : OwnN w3 108 18 v3 n (flatE L) := by simpa using O3
  obtain ⟨g3, cp3, rfl, q3, q4⟩ := ownN_some O3 G3 ⟨w2.heap.size, rfl⟩
  have T3 : Turn no w2 w3 := ((Turn.refl no w2).alloc _).fresh G3 (fun g hg => by cases hg; exact Nat.le_refl _)
  have F3 := G3.fresh (B := w2.heap.size) (fun g hg => by cases hg; exact Nat.le_refl _) (by simp) g3 rfl
  have HI0 := shut (And.intro O3 (And.intro F3 T3))
  clear O3 F3 T3 G3 O0 hsr c34b
  go_wp2_with fail
  go_loopw [4, 5] (fun v i wr => ∃ (k g cp : Nat), k ≤ 2 ∧ i = .int .i64 k ∧ v = .slice (some ⟨g, 0, none⟩) (n + k) cp ∧ Shut (OwnN wr 108 18 (.slice (some ⟨g, 0, none⟩) (n + k) cp) (n + k) (flatE L ++ tgs k) ∧ w2.heap.size ≤ g ∧ Turn no w2 wr)) (fun _ i _ => 2 - (intOf i).toNat)
  case atStart => exact ⟨0, g3, cp3, by omega, rfl, rfl, ⟨by simpa [tgs] using HI0.out.1, HI0.out.2.1, HI0.out.2.2⟩⟩
  case round =>
    obtain ⟨k, g, cp, hk, rfl, rfl, HI⟩ := hrel
    obtain ⟨kO, kG, kT⟩ := HI.out
    by_cases hlt : k < 2
    · have hlt' : (k : Int) < 2 := by omega
      have C1 := fun W => tag38 W k (by omega)
      have hB := built108 k
      have hs : (tgM k).toArray.size = 18 := rfl
      have O4 := kO.turn_no ((Turn.refl no wr).alloc (.cells (tgM k).toArray 108))
      have S4 := src_el (t := 32) (e := 108) Tryd.underlying32 wr (tgM k) 18 (tgM_len k) (tgM_one k)
      have HTG := shut (tgs_succ k)
      clear kO
      generalize hM : tgM k = M at *
      clear hM
      obtain ⟨v5, w5, hr5, O5, G5⟩ := run_append_srcN (P := Tryd.prog) Tryd.underlying32 info108 rfl (by omega) 32 _ _ (n + k) (flatE L ++ tgs k) O4 _ 1 M S4 (Nat.le_trans (Nat.mul_le_mul_right 32 (show n + k + 1 ≤ n + 2 by omega)) hb) (by simp only [maxLen]; omega)
      obtain ⟨g5, cp5, rfl, q5, q6⟩ := ownN_some O5 G5 ⟨g, rfl⟩
      go_upto_region 5 with (first | (go_at_call 38; refine (C1 _).mono ?_; clear C1; rintro e w4 ⟨rfl, rfl⟩) | (guard_target =~ wpList _ _ _ ({ dst := _, op := Op.build 108 _, .. } :: _) _ _; refine wpList_build1 rfl 108 1 (.tmp 19) rfl _ rfl M.toArray hB ?_) | (guard_target =~ wpList _ _ _ ({ dst := _, op := Op.buildSlice 32 _ _, .. } :: _) _ _; refine wpList_bsliceA rfl 32 108 18 (.tmp 20) rfl M.toArray rfl hs (by omega) (by omega) Tryd.underlying32 size108 (by kernel_rfl) ?_) | (at_builtin; refine wpList_append_run rfl (.tmp 17) (.tmp 21) rfl _ _ rfl rfl hr5 ?_; clear hr5))
      have T5 : Turn no w2 w5 := (kT.alloc _).fresh G5 (fun g' hg => by cases hg; exact kG)
      have F5 := G5.fresh (B := w2.heap.size) (fun g' hg => by cases hg; exact kG) (by have := kT.size; simp; omega) g5 rfl
      have HN := shut (And.intro O5 (And.intro F5 T5))
      clear O5 F5 T5 G5 HI kT kG O4 S4
      go_wp2_with fail
      go_roundw
      case rel => exact ⟨k + 1, g5, cp5, by omega, by go_num, rfl, ⟨by have := HN.out.1; rw [HTG.out, ← List.append_assoc]; exact this, HN.out.2.1, HN.out.2.2⟩⟩
      case measure => simp [intOf]; omega
    · obtain rfl : k = 2 := by omega
      have hlt' : ¬ ((2 : Nat) : Int) < 2 := by omega
      obtain ⟨xa, xc, xe, _, x1, x2, x3⟩ := kO.form
      cases xe
      have R1 := Row.turn HR1.out kT (fun q => q)
      have R2 := Row.turn HR2.out kT (fun q => q)
      have d34 : wr.cell? ⟨w.heap.size, 34, none⟩ = some (.slice a n cap) := kT.keep c34 (fun q => q)
      have f34 : wr.frozen? ⟨w.heap.size, 34, none⟩ = false := frozen_of_row wr w.heap.size 34 _ 34 R1
      have hcp : n + 2 ≤ cp := x2
      have hcq : cp ≤ 9223372036854775807 := by simp only [maxLen] at x3; omega
      have HKO := shut (And.intro kO (And.intro kG kT))
      clear HI HI0 kO x1 x2 x3
      go_upto_region 8 with fail
      have TS : Turn (fun k => k = w.heap.size) wr (wr.setCell ⟨w.heap.size, 34, none⟩ (.slice (some ⟨g, 0, none⟩) n cp)) := (Turn.refl (fun k => k = w.heap.size) wr).setCell (p := ⟨w.heap.size, 34, none⟩) (fun _ => rfl) _
      have S1 : Row (wr.setCell ⟨w.heap.size, 34, none⟩ (.slice (some ⟨g, 0, none⟩) n cp)) w.heap.size (ctL h r id (.slice (some ⟨g, 0, none⟩) n cp)).toArray 34 := by
        have := Row.set R1 34 (.slice (some ⟨g, 0, none⟩) n cp)
        rwa [← HC.out, ctL_set h r id HID.out] at this
      have S2 : Row (wr.setCell ⟨w.heap.size, 34, none⟩ (.slice (some ⟨g, 0, none⟩) n cp)) (w.heap.size + 1) Z 34 := R2.turn TS (fun q => by omega)
      have HO : Shut (OwnN (wr.setCell ⟨w.heap.size, 34, none⟩ (.slice (some ⟨g, 0, none⟩) n cp)) 108 18 (.slice (some ⟨g, 0, none⟩) (n + 2) cp) (n + 2) (flatE L ++ tgs 2) ∧ w.heap.size + 2 ≤ g ∧ Turn no w (wr.setCell ⟨w.heap.size, 34, none⟩ (.slice (some ⟨g, 0, none⟩) n cp))) := by
        obtain ⟨kO, kG, kT⟩ := HKO.out
        have hs2 := H2S.out
        exact ⟨kO.turn TS (fun g' hg q => by cases hg; have q2 : g = w.heap.size := q; omega), by omega, (HT2.out.then_no kT).trans TS (fun i hi q => by omega)⟩
      have sA := ctL_size h r id HID.out (.slice (some ⟨g, 0, none⟩) n cp)
      have sZ : Z.size = 35 := by rw [← HZ.out]; exact ctL_size 0 0 zid rfl _
      have oA : (ctL h r id (.slice (some ⟨g, 0, none⟩) n cp)).toArray.all (·.oneCell') = true := ctL_oneA _ _ _ _
      have HKZ := shut HKO
      clear HKO TS R1 R2 d34 f34
      generalize wr.setCell ⟨w.heap.size, 34, none⟩ (.slice (some ⟨g, 0, none⟩) n cp) = wz at *
      obtain ⟨A, hA⟩ : ∃ A, (ctL h r id (.slice (some ⟨g, 0, none⟩) n cp)).toArray = A := ⟨_, rfl⟩
      rw [hA] at S1 sA oA
      have HA := shut hA
      clear hA
      have iA : (Tryd.prog.info? 34).map (·.size) = some A.size := by rw [sA]; exact size30a
      go_wp2_with (first | (guard_target =~ wpList _ _ _ ({ dst := _, op := Op.load 34 _, .. } :: _) _ _; refine wpList_load_rowN rfl 34 (.tmp 1) rfl w.heap.size rfl 34 A _ S1 Tryd.underlying34 rfl iA ?_) | (guard_target =~ wpList _ _ _ ({ dst := _, op := Op.store 34 _ _, .. } :: _) _ _; refine wpList_store_anyN rfl rfl 34 (.tmp 2) (.tmp 27) rfl (w.heap.size + 1) A rfl rfl 34 Z S2 iA (by rw [sZ, sA]) oA ?_; intro w9 R9 T9))
      refine bodyPost_ret (v := .agg A) (results_cell_row (P := Tryd.prog) Tryd.results39 _ _ (w.heap.size + 1) 34 A (0, 0) _ rfl R9 Tryd.underlying34 rfl iA) rfl ⟨g, cp, by rw [HA.out], HO.out.1.turn T9 (fun g' hg q => by cases hg; have q2 : g = w.heap.size + 1 := q; have := HO.out.2.1; omega), by have := HO.out.2.1; omega, HO.out.2.2.trans T9 (fun i hi q => by omega)⟩
end Go.Proofs.YtgimecdmleofeaaDoor
