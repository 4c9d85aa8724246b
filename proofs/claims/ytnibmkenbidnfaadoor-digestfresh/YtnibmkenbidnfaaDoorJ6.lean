/- A list of digests as cells; appends; same. -/
import Derived.Test.YtnibmkenbidnfaaDoorJ5
namespace Go.Proofs.YtnibmkenbidnfaaDoor
open Go.RowKit
set_option linter.unusedVariables false

theorem Row.src1 {P : Program} {t e' e : TypeId} {size : Nat} (hk : P.underlying t = some (.slice e')) {W : World} {g : Nat} {X : Array Value} (h : Row W g X e) (hX : X.size = size) (h1 : ∀ u ∈ X.toList, u.oneCell' = true) : Src P size t (.slice (some ⟨g, 0, none⟩) 1 1) 1 X.toList W := by
  refine Src.ofSlice W hk _ _ _ _ (by simp [hX]) (fun j u hu => ?_) h1
  rw [Addr.add_lit, Nat.zero_add]
  exact h.cell j u (by simpa using hu)
theorem wp_append_run {P : Program} {o : Oper} {a : Act} {w : World} {K : Act → World → Prop} {Q : Exit → Act → World → Prop} (s x : Operand) {t tx : TypeId}
    (ho : o.op = .call { callee := .builtin .append, args := #[s, x], argTypes := #[t, tx] }) (v xv : Value) (hs : a.eval s = v) (hx : a.eval x = xv) {v' : Value} {w' : World}
    (hr : (Builtin.append_ #[t, tx] o.type #[v, xv]).run P w = .ok v' w') (h : K (a.put o.dst v') w') : Oper.wp P o a w K Q := by
  unfold Oper.wp execOp
  simp only [ho, resolve, invoke, builtin, Sem.run_bind, Sem.run_pure, Result.andThen_ok, List.map_toArray, List.map_cons, List.map_nil, hs, hx, hr]
  exact h
theorem wpList_append_run {P : Program} {ops : Array Oper} {rest : List Oper} {o : Oper} {a : Act} {w : World} {Q : Exit → Act → World → Prop} (hgd : o.guard = none) (s x : Operand) {t tx : TypeId}
    (ho : o.op = .call { callee := .builtin .append, args := #[s, x], argTypes := #[t, tx] }) (v xv : Value) (hs : a.eval s = v) (hx : a.eval x = xv) {v' : Value} {w' : World}
    (hr : (Builtin.append_ #[t, tx] o.type #[v, xv]).run P w = .ok v' w') (h : wpList P ops Q rest (a.put o.dst v') w') : wpList P ops Q (o :: rest) a w :=
  wpList_plain hgd fun K hK => wp_append_run s x ho v xv hs hx hr (hK _ _ h)
section
variable {P : Program} {t e : TypeId} {z : Value} {size bytes : Nat}
/-- The first append: onto what is empty. -/
theorem app_first (ht : P.underlying t = some (.slice e)) (hinf : (P.info? e).map (fun i => (i.zero, i.size, i.bytes)) = some (some z, size, bytes)) (hz : z.cells.size = size) (hsz : 0 < size)
    {w W0 : World} (T : Turn no w W0) {v0 : Value} (O : OwnN W0 e size v0 0 []) (f : ∀ g, v0.ownBlock = some g → w.heap.size ≤ g) {vs : Value} {n : Nat} {news : List Value} (hs : Src P size t vs n news W0) (hb : (n + 1) * bytes ≤ 140737488355328) (hm : n + 1 ≤ maxLen) :
    ∃ v1 w1, (Builtin.append_ #[t, t] t #[v0, vs]).run P W0 = .ok v1 w1 ∧ OwnN w1 e size v1 n news ∧ (∀ g, v1.ownBlock = some g → w.heap.size ≤ g) ∧ Turn no w w1 ∧ Turn (fun k => v0.ownBlock = some k) W0 w1 ∧ ∃ a c, v1 = .slice a n c := by
  obtain ⟨v1, w1, hr, O1, G1⟩ := run_append_srcN (P := P) ht hinf hz hsz t W0 v0 0 [] O vs n news hs (Nat.le_trans (Nat.mul_le_mul_right _ (by omega)) hb) (by omega)
  rw [Nat.zero_add, List.nil_append] at O1
  obtain ⟨a, c, e1, _⟩ := O1.form
  exact ⟨v1, w1, hr, O1, G1.fresh f T.size, T.trans G1.turn (fun k hk q => by have := f k q; omega), G1.turn, a, c, e1⟩
/-- The second: one element. -/
theorem app_second (ht : P.underlying t = some (.slice e)) (hinf : (P.info? e).map (fun i => (i.zero, i.size, i.bytes)) = some (some z, size, bytes)) (hz : z.cells.size = size) (hsz : 0 < size)
    {w W1 : World} (T : Turn no w W1) {v1 : Value} {n : Nat} {news : List Value} (O : OwnN W1 e size v1 n news) (f : ∀ g, v1.ownBlock = some g → w.heap.size ≤ g) {g : Nat} {X : Array Value} (hR : Row W1 g X e) (hX : X.size = size) (h1 : ∀ u ∈ X.toList, u.oneCell' = true) (hb : (n + 1) * bytes ≤ 140737488355328) (hm : n + 1 ≤ maxLen) :
    ∃ v2 w2, (Builtin.append_ #[t, t] t #[v1, .slice (some ⟨g, 0, none⟩) 1 1]).run P W1 = .ok v2 w2 ∧ OwnN w2 e size v2 (n + 1) (news ++ X.toList) ∧ Turn no w w2 ∧ ∃ g2 c2, v2 = .slice (some ⟨g2, 0, none⟩) (n + 1) c2 ∧ n + 1 ≤ c2 ∧ w.heap.size ≤ g2 := by
  obtain ⟨v2, w2, hr, O2, G2⟩ := run_append_srcN (P := P) ht hinf hz hsz t W1 v1 n news O (.slice (some ⟨g, 0, none⟩) 1 1) 1 X.toList (hR.src1 ht hX h1) hb hm
  refine ⟨v2, w2, hr, O2, T.trans G2.turn (fun k hk q => by have := f k q; omega), ?_⟩
  rcases O2.2 with ⟨_, q⟩ | ⟨g2, c2, cur, e2, _, _, h2, _⟩
  · omega
  · exact ⟨g2, c2, e2, h2, G2.fresh f T.size g2 (by rw [e2]; rfl)⟩
end
def hsF (l : List (List UInt8)) : List Value := l.flatMap (·.map bv)
theorem hsF_len : ∀ (l : List (List UInt8)), (∀ m ∈ l, m.length = 32) → (hsF l).length = l.length * 32
  | [], _ => rfl
  | m :: r, h => by
    rw [hsF, List.flatMap_cons, List.length_append, List.length_map, h m (by simp), ← hsF, hsF_len r (fun x hx => h x (by simp [hx])), List.length_cons]
    omega
theorem hsF_append (a b : List (List UInt8)) : hsF (a ++ b) = hsF a ++ hsF b := by simp [hsF]
theorem hsF_at : ∀ (l : List (List UInt8)), (∀ m ∈ l, m.length = 32) → ∀ (j : Nat) (m : List UInt8), l[j]? = some m → ∀ i, i < 32 → (hsF l)[j * 32 + i]? = (m.map bv)[i]?
  | x :: r, hk, 0, m, h, i, hi => by
    simp at h
    subst h
    rw [hsF, List.flatMap_cons, Nat.zero_mul, Nat.zero_add, List.getElem?_append_left (by rw [List.length_map, hk _ (by simp)]; exact hi)]
  | x :: r, hk, j + 1, m, h, i, hi => by
    have hx := hk x (by simp)
    rw [hsF, List.flatMap_cons, List.getElem?_append_right (by rw [List.length_map]; omega)]
    have := hsF_at r (fun x hx => hk x (by simp [hx])) j m (by simpa using h) i hi
    rw [hsF] at this
    rw [← this, List.length_map, hx]
    congr 1
    omega
theorem hsF_one (l : List (List UInt8)) : ∀ u ∈ hsF l, u.oneCell' = true := by
  intro u hu
  obtain ⟨m, _, hu⟩ := List.mem_flatMap.1 hu
  obtain ⟨b, _, rfl⟩ := List.mem_map.1 hu
  rfl
theorem HsAt.src {w : World} {a : Option Addr} {cap : Nat} {l : List (List UInt8)} (h : HsAt w a cap l) : Src Tryd.prog 32 50 (.slice a l.length cap) l.length (hsF l) w := by
  cases a with
  | none =>
    have : l = [] := by
      cases l with
      | nil => rfl
      | cons m r =>
        obtain ⟨b, off, e, _⟩ := h.cells 0 m rfl
        cases e
    subst this
    exact Src.ofNil w Tryd.underlying50 cap
  | some a =>
    refine Src.ofSlice w Tryd.underlying50 a l.length cap (hsF l) (hsF_len l h.ok) (fun j u hu => ?_) (hsF_one l)
    have hj : j < l.length * 32 := by rw [← hsF_len l h.ok]; exact (List.getElem?_eq_some_iff.1 hu).1
    have hm : l[j / 32]? = some (l[j / 32]'(by omega)) := List.getElem?_eq_getElem (by omega)
    obtain ⟨b, off, e, c⟩ := h.cells _ _ hm
    cases e
    have hx := hsF_at l h.ok (j / 32) _ hm (j % 32) (by omega)
    have ej : j / 32 * 32 + j % 32 = j := by omega
    rw [ej, hu] at hx
    rw [Addr.add_lit]
    have := c (j % 32) u hx.symm
    rwa [show off + j / 32 * 32 + j % 32 = off + j by omega] at this
theorem OwnN.hsAt {w : World} {v : Value} {n : Nat} {l : List (List UInt8)} (h : OwnN w 35 32 v n (hsF l)) (hn : n = l.length) (hok : ∀ m ∈ l, m.length = 32) : ∃ a cap, v = .slice a n cap ∧ HsAt w a cap l := by
  obtain ⟨a, cap, rfl, ha, h1, h2, h3⟩ := h.form
  refine ⟨a, cap, rfl, by omega, h3, hok, fun j m hj => ?_⟩
  have hjl := (List.getElem?_eq_some_iff.1 hj).1
  rcases h.2 with ⟨_, q⟩ | ⟨g, cap', cur, e, _⟩
  · omega
  · cases e
    refine ⟨g, 0, rfl, fun i v hi => ?_⟩
    have hi18 : i < 32 := by have := (List.getElem?_eq_some_iff.1 hi).1; rwa [List.length_map, hok m (List.mem_of_getElem? hj)] at this
    have := World.ownsRow.cells h (g := g) rfl (j * 32 + i) v (by rw [hsF_at l hok j m hj i hi18]; exact hi)
    simpa [Addr.add_lit] using this
set_option maxRecDepth 100000 in
set_option maxHeartbeats 8000000 in
theorem same24 (w : World) (t i : Int) (l : List (List UInt8)) (a : Option Addr) (cap : Nat) (a' : Option Addr) (cap' : Nat) (hk : HsAt w a cap l) (hk' : HsAt w a' cap' l) : Calls Tryd.prog 24 #[.agg #[.int .i64 t, .int .i64 i, .slice a l.length cap], .agg #[.int .i64 t, .int .i64 i, .slice a' l.length cap']] w fun e w' => e = .returned (.bool true) ∧ Turn no w w' := by
  obtain ⟨n, hn⟩ : ∃ n, Hid (l.length = n) := ⟨_, rfl⟩
  have hn' : l.length = n := hn.out
  have hle : n ≤ 9223372036854775807 := by have := hk.le; have := hk.cap; simp only [maxLen] at this; omega
  rw [hn']
  obtain ⟨w0, hw0⟩ : ∃ w0, (w.alloc (.cells #[.int .i64 t, .int .i64 i, .slice a n cap] 52)).alloc (.cells #[.int .i64 t, .int .i64 i, .slice a' n cap'] 52) = w0 := ⟨_, rfl⟩
  have T0 : Turn no w w0 := by rw [← hw0]; exact ((Turn.refl no w).alloc _).alloc _
  have B0 : Row w0 w.heap.size #[.int .i64 t, .int .i64 i, .slice a n cap] 52 := by rw [← hw0]; exact (Row.new w _ 52).alloc _
  have B1 : Row w0 (w.heap.size + 1) #[.int .i64 t, .int .i64 i, .slice a' n cap'] 52 := by rw [← hw0]; exact Row.newAt _ _ _ _ (by simp)
  have HK := shut (hk.turn_no T0)
  have HK' := shut (hk'.turn_no T0)
  have HY : Shut (∀ W, Turn no w0 W → W.cell? ⟨w.heap.size, 2, none⟩ = some (.slice a n cap) ∧ W.cell? ⟨w.heap.size + 1, 2, none⟩ = some (.slice a' n cap')) := fun W t => ⟨t.keep (B0.cell 2 _ rfl) (fun q => q), t.keep (B1.cell 2 _ rfl) (fun q => q)⟩
  have HT0 := shut T0
  have x0 := B0.cell 0 _ rfl
  have x1 := B0.cell 1 _ rfl
  have x2 := B0.cell 2 _ rfl
  have y0 := B1.cell 0 _ rfl
  have y1 := B1.cell 1 _ rfl
  have y2 := B1.cell 2 _ rfl
  have e0 : (t != t) = false := by simp
  have e1 : (i != i) = false := by simp
  have e2 : ((n : Int) != (n : Int)) = false := by simp
  clear hk hk' hn' B0 B1 T0
  go_enter Tryd.func24, Tryd.ntmps24
  go_upto_region 1 with fail
  try rw [hw0]
  clear hw0
  go_wp2_with fail
  clear x0 x1 x2 y0 y1 y2 e0 e1 e2
  go_loopw [5] (fun c wr => ∃ k : Nat, k ≤ n ∧ c = .int .i64 k ∧ Shut (Turn no w0 wr)) (fun c _ => n - (intOf c).toNat)
  case atStart => exact ⟨0, by omega, rfl, Turn.refl _ _⟩
  case round =>
    obtain ⟨k, hk, rfl, HT⟩ := hrel
    obtain ⟨z0, z1⟩ := HY.out wr HT.out
    by_cases hlt : k < n
    · obtain ⟨m, hm⟩ : ∃ m, l[k]? = some m := ⟨l[k]'(by rw [hn.out]; exact hlt), List.getElem?_eq_getElem _⟩
      obtain ⟨b, off, rfl, c0⟩ := (HK.out.turn_no HT.out).cells k m hm
      obtain ⟨b', off', rfl, d0⟩ := (HK'.out.turn_no HT.out).cells k m hm
      have hlt' : (k : Int) < (n : Int) := by omega
      have hmo := HK.out.ok m (List.mem_of_getElem? hm)
      have hs : (Tryd.prog.info? 35).map (·.size) = some (m.map bv).length := by rw [List.length_map, hmo]; exact size35
      have HE : Shut (∀ W, (Op.equalIn 10000 35 (.agg (m.map bv).toArray) (.agg (m.map bv).toArray)).run Tryd.prog W = .ok true W) := fun W => by rw [eqIn35 W m m hmo hmo]; simp
      clear hm hmo
      generalize m.map bv = X at *
      have HC : Shut (∀ W, Turn no wr W → W.rangeAt b (off + k * 32) X ∧ W.rangeAt b' (off' + k * 32) X) := fun W t => ⟨fun i v hi => t.keep (c0 i v hi) (fun q => q), fun i v hi => t.keep (d0 i v hi) (fun q => q)⟩
      have HY2 : Shut (∀ W, Turn no wr W → W.cell? ⟨w.heap.size, 2, none⟩ = some (.slice (some ⟨b, off, none⟩) n cap) ∧ W.cell? ⟨w.heap.size + 1, 2, none⟩ = some (.slice (some ⟨b', off', none⟩) n cap')) := fun W t => HY.out W (HT.out.then_no t)
      clear c0 d0
      go_wp2_with fail
      clear z0 z1
      refine wp_region_held_drew (S := fun W => Turn no wr W) (by kernel_rfl) (Turn.refl no wr).drew (fun hHeld => ?_)
      refine' wpAnyH_take (i := 0) (v := .pointer (some ⟨w.heap.size, 2, none⟩)) rfl (by kernel_rfl) (by kernel_rfl) (by kernel_rfl) (fun _ _ _ h => h) (Or.inl ⟨by kernel_rfl, fun W hW => ?y1⟩) hHeld ?r1
      · go_simp
      refine' wpAnyH_take (i := 1) (v := .slice (some ⟨b, off, none⟩) n cap) rfl (by kernel_rfl) (by kernel_rfl) (by kernel_rfl) (fun _ _ _ h => h) (Or.inl ⟨by kernel_rfl, fun W hW => ?y2⟩) hHeld ?r2
      · obtain ⟨z0, z1⟩ := HY2.out W hW
        go_simp
      refine' wpAnyH_take (i := 2) (v := .int .i64 k) rfl (by kernel_rfl) (by kernel_rfl) (by kernel_rfl) (fun _ _ _ h => h) (Or.inl ⟨by kernel_rfl, fun W hW => ?y3⟩) hHeld ?r3
      · go_simp
      refine' wpAnyH_take (i := 3) (v := .pointer (some ⟨b, off + k * 32, none⟩)) rfl (by kernel_rfl) (by kernel_rfl) (by kernel_rfl) (fun _ _ _ h => h) (Or.inl ⟨by kernel_rfl, fun W hW => ?y4⟩) hHeld ?r4
      · go_simp
      refine' wpAnyH_take (i := 4) (v := .agg X.toArray) rfl (by kernel_rfl) (by kernel_rfl) (by kernel_rfl) (fun _ _ _ h => h) (yieldsIf_load_mid (by kernel_rfl) 35 (.tmp 37) rfl b (off + k * 32) (by kernel_rfl) X _ (fun W h => (HC.out W h).1) Tryd.underlying35 rfl hs) hHeld ?s0
      refine' wpAnyH_take (i := 5) (v := .pointer (some ⟨w.heap.size + 1, 2, none⟩)) rfl (by kernel_rfl) (by kernel_rfl) (by kernel_rfl) (fun _ _ _ h => h) (Or.inl ⟨by kernel_rfl, fun W hW => ?y5⟩) hHeld ?r5
      · go_simp
      refine' wpAnyH_take (i := 6) (v := .slice (some ⟨b', off', none⟩) n cap') rfl (by kernel_rfl) (by kernel_rfl) (by kernel_rfl) (fun _ _ _ h => h) (Or.inl ⟨by kernel_rfl, fun W hW => ?y6⟩) hHeld ?r6
      · obtain ⟨z0, z1⟩ := HY2.out W hW
        go_simp
      refine' wpAnyH_take (i := 7) (v := .int .i64 k) rfl (by kernel_rfl) (by kernel_rfl) (by kernel_rfl) (fun _ _ _ h => h) (Or.inl ⟨by kernel_rfl, fun W hW => ?y7⟩) hHeld ?r7
      · go_simp
      refine' wpAnyH_take (i := 8) (v := .pointer (some ⟨b', off' + k * 32, none⟩)) rfl (by kernel_rfl) (by kernel_rfl) (by kernel_rfl) (fun _ _ _ h => h) (Or.inl ⟨by kernel_rfl, fun W hW => ?y8⟩) hHeld ?r8
      · go_simp
      refine' wpAnyH_take (i := 9) (v := .agg X.toArray) rfl (by kernel_rfl) (by kernel_rfl) (by kernel_rfl) (fun _ _ _ h => h) (yieldsIf_load_mid (by kernel_rfl) 35 (.tmp 42) rfl b' (off' + k * 32) (by kernel_rfl) X _ (fun W h => (HC.out W h).2) Tryd.underlying35 rfl hs) hHeld ?s1
      refine' wpAnyH_take (i := 10) (v := .bool false) rfl (by kernel_rfl) (by kernel_rfl) (by kernel_rfl) (fun _ _ _ h => h) (Or.inl ⟨by kernel_rfl, fun W hW => ?y9⟩) hHeld ?r9
      · have e := HE.out
        go_simp
      refine wpAnyH_done (by kernel_rfl) ?_ _
      go_simp
      have HN := shut (HT.out.then_no hHeld)
      clear hHeld HC HY2
      go_wp2_with fail
      go_roundw
      case rel => exact ⟨k + 1, by omega, by go_num, HN.out⟩
      case measure => simp [intOf]; omega
    · have hkn : k = n := by omega
      have hlt' : ¬ (k : Int) < (n : Int) := by omega
      clear hkn
      go_wp2_with fail
      go_ret
      exact ⟨rfl, HT0.out.then_no HT.out⟩
end Go.Proofs.YtnibmkenbidnfaaDoor
