/- A disk of the program beside one of the document; writes. -/
import Derived.Test.YtcdogciacchigabR7
import Derived.Test.YtcdogciacchigabR8
import Derived.Test.YtcdogciacchigabR9
import Derived.Test.YtcdogciacchigabR10
import Derived.Test.YtcdogciacchigabL2
import Derived.Test.YtcdogciacchigabQ1
namespace Go.Proofs.Ytcdogciacchigab
open Go.RowKit Go.Maps
set_option linter.unusedVariables false

/-- From B on, but for X. -/
def out (B : Nat) (X : Nat → Prop) : Nat → Prop := fun k => B ≤ k ∧ ¬ X k
/-- A disk of the program at p, one of the document at q, in memory of their own. -/
def Pr (B : Nat) (X : Nat → Prop) (w : World) (p q : Nat) (s s' : St) : Prop :=
  ∃ K L, Dk w p K s ∧ Rk w q L s' ∧ (∀ k, K k → ¬ L k) ∧ (∀ k, K k → out B X k) ∧ (∀ k, L k → out B X k)
section
variable {B : Nat} {X : Nat → Prop} {w w' : World} {p q : Nat} {s s' : St}
theorem Pr.turn_no (h : Pr B X w p q s s') (t : Turn no w w') : Pr B X w' p q s s' := by
  obtain ⟨K, L, h1, h2, h3⟩ := h
  exact ⟨K, L, h1.turn_no t, h2.turn_no t, h3⟩
theorem Pr.turn_X (h : Pr B X w p q s s') (t : Turn X w w') : Pr B X w' p q s s' := by
  obtain ⟨K, L, h1, h2, h3, h4, h5⟩ := h
  exact ⟨K, L, h1.turn t (fun k hk => (h4 k hk).2), h2.turn t (fun k hk => (h5 k hk).2), h3, h4, h5⟩
theorem Pr.free {Y : Nat → Prop} (h : Pr B X w p q s s') (hY : ∀ k, Y k → X k) : Pr B Y w p q s s' := by
  obtain ⟨K, L, h1, h2, h3, h4, h5⟩ := h
  exact ⟨K, L, h1, h2, h3, fun k hk => ⟨(h4 k hk).1, fun e => (h4 k hk).2 (hY k e)⟩, fun k hk => ⟨(h5 k hk).1, fun e => (h5 k hk).2 (hY k e)⟩⟩
theorem Dk.klt {K : Nat → Prop} (h : Dk w p K s) : ∀ k, K k → k < w.heap.size := by
  obtain ⟨_, _, _, hd⟩ := h
  exact hd.klt
theorem Rk.klt {K : Nat → Prop} (h : Rk w q K s) : ∀ k, K k → k < w.heap.size := by
  obtain ⟨_, _, hd⟩ := h
  exact hd.klt
theorem Pr.avoid {Y : Nat → Prop} (h : Pr B Y w p q s s') (hX : ∀ k, X k → Y k ∨ w.heap.size ≤ k) : Pr B X w p q s s' := by
  obtain ⟨K, L, h1, h2, h3, h4, h5⟩ := h
  exact ⟨K, L, h1, h2, h3, fun k hk => ⟨(h4 k hk).1, fun e => (hX k e).elim (h4 k hk).2 (fun q => by have := h1.klt k hk; omega)⟩, fun k hk => ⟨(h5 k hk).1, fun e => (hX k e).elim (h5 k hk).2 (fun q => by have := h2.klt k hk; omega)⟩⟩
/-- A call of the program's. -/
theorem Pr.fst (h : Pr B X w p q s s') (hB : B ≤ w.heap.size) (hX : ∀ k, X k → k < w.heap.size) {r : St × Int} {f : Nat} {args : Array Value}
    (hc : ∀ K, Dk w p K s → (∀ k, K k → out B X k) → Calls Try.prog f args w (Ans w p K r)) : Calls Try.prog f args w fun e w' => e = .returned (.int .i64 r.2) ∧ Pr B X w' p q r.1 s' ∧ Turn (out B X) w w' := by
  obtain ⟨K, L, h1, h2, h3, h4, h5⟩ := h
  have hlt := h2.klt
  refine (hc K h1 h4).mono ?_
  rintro e w' ⟨rfl, K2, hD, hF, T⟩
  refine ⟨rfl, ⟨K2, L, hD, h2.turn T (fun k hk q => h3 k q hk), fun k hk hk' => ?_, fun k hk => ?_, h5⟩, T.mono (fun k _ hk => h4 k hk)⟩
  · rcases hF k hk with x | x
    · exact h3 k x hk'
    · have := hlt k hk'; omega
  · rcases hF k hk with x | x
    · exact h4 k x
    · exact ⟨by omega, fun e => by have := hX k e; omega⟩
/-- A call of the document's. -/
theorem Pr.snd (h : Pr B X w p q s s') (hB : B ≤ w.heap.size) (hX : ∀ k, X k → k < w.heap.size) {r : St × Int} {f : Nat} {args : Array Value}
    (hc : ∀ L, Rk w q L s' → (∀ k, L k → out B X k) → Calls Try.prog f args w (Rns w q L r)) : Calls Try.prog f args w fun e w' => e = .returned (.int .i64 r.2) ∧ Pr B X w' p q s r.1 ∧ Turn (out B X) w w' := by
  obtain ⟨K, L, h1, h2, h3, h4, h5⟩ := h
  have hlt := h1.klt
  refine (hc L h2 h5).mono ?_
  rintro e w' ⟨rfl, L2, hD, hF, T⟩
  refine ⟨rfl, ⟨K, L2, h1.turn T (fun k hk q => h3 k hk q), hD, fun k hk hk' => ?_, h4, fun k hk => ?_⟩, T.mono (fun k _ hk => h5 k hk)⟩
  · rcases hF k hk' with x | x
    · exact h3 k hk x
    · have := hlt k hk; omega
  · rcases hF k hk with x | x
    · exact h5 k x
    · exact ⟨by omega, fun e => by have := hX k e; omega⟩
end

section
variable {B : Nat} {Y : Nat → Prop} {w : World} {p q : Nat} {s : St}
set_option maxRecDepth 100000 in
set_option maxHeartbeats 16000000 in
theorem writes56 (h : Pr B Y w p q s s) (hB : B ≤ w.heap.size) (hY : ∀ k, Y k → k < w.heap.size) (hn : s.n < 4611686018427387904) (hm : s.m < 3518437208780) (o : Opx) (ho : Ox B w o) (hdl : o.data.length ≤ 140737488351232) (hkind : o.kind = 1 ∨ o.kind = 2 ∨ o.kind = 3 ∨ o.kind = 4 ∨ o.kind = 5) :
    Calls Try.prog 56 #[.agg #[ptr p, ptr q], .agg (opC o)] w fun e w' => e = .returned (.bool true) ∧ Pr B Y w' p q (doS s o).1 (doS s o).1 ∧ Turn (out B Y) w w' := by
  have TB : Turn no w ((w.alloc (.cells #[ptr p, ptr q] 55)).alloc (.cells (opC o) 33)) := ((Turn.refl no w).alloc _).alloc _
  have rb2 : Row ((w.alloc (.cells #[ptr p, ptr q] 55)).alloc (.cells (opC o) 33)) w.heap.size #[ptr p, ptr q] 55 := (Row.new w _ 55).alloc _
  have rb3 : Row ((w.alloc (.cells #[ptr p, ptr q] 55)).alloc (.cells (opC o) 33)) (w.heap.size + 1) (opC o) 33 := Row.newAt _ _ 33 _ (by simp)
  have hwbs : ((w.alloc (.cells #[ptr p, ptr q] 55)).alloc (.cells (opC o) 33)).heap.size = w.heap.size + 2 := by simp
  obtain ⟨va, vc, hvs⟩ := ho.data.slice
  obtain ⟨ka, kn, kc, hks⟩ : ∃ ka kn kc, o.vk = .slice ka kn kc := by
    obtain ⟨a, c, e⟩ := ho.keep.slice
    exact ⟨_, _, _, e⟩
  obtain ⟨kind, who, nm, vd, data, n, t, vk, keep, junk⟩ := o
  simp only at hvs hks hdl hkind
  subst hvs hks
  have hroom := room20 _ (.slice va data.length vc) data (ho.data.turn_no TB) hdl
  have HO := shut ho
  generalize hwb : (w.alloc (.cells #[ptr p, ptr q] 55)).alloc (.cells (opC ⟨kind, who, nm, .slice va data.length vc, data, n, t, .slice ka kn kc, keep, junk⟩) 33) = wb at *
  -- what holds behind room
  have hcells : ∀ W : World, (∀ k, k = w.heap.size ∨ k = w.heap.size + 1 → W.heap[k]? = wb.heap[k]?) → W.cell? ⟨w.heap.size, 0, none⟩ = some (ptr p) ∧ W.cell? ⟨w.heap.size, 1, none⟩ = some (ptr q) ∧ W.cell? ⟨w.heap.size + 1, 0, none⟩ = some (.int .i64 kind) ∧ W.cell? ⟨w.heap.size + 1, 2, none⟩ = some (strV nm) ∧ W.cell? ⟨w.heap.size + 1, 3, none⟩ = some (.slice va data.length vc) ∧ W.cell? ⟨w.heap.size + 1, 4, none⟩ = some (.int .i64 n) := fun W hW => by
    have r2 : Row W w.heap.size #[ptr p, ptr q] 55 := (hW w.heap.size (Or.inl rfl)).trans rb2
    have r3 : Row W (w.heap.size + 1) (opC ⟨kind, who, nm, .slice va data.length vc, data, n, t, .slice ka kn kc, keep, junk⟩) 33 := (hW (w.heap.size + 1) (Or.inr rfl)).trans rb3
    exact ⟨r2.cell 0 _ rfl, r2.cell 1 _ rfl, r3.cell 0 _ rfl, r3.cell 2 _ rfl, r3.cell 3 _ rfl, r3.cell 4 _ rfl⟩
  have HC := shut hcells
  have hP := h.turn_no TB
  have HP := shut h
  have HTB := shut TB
  have HWBS := shut hwbs
  obtain ⟨x0, x1, x2, x3, x4, x5⟩ := HC.out wb (fun _ _ => rfl)
  have hnum := num10
  have HNUM := shut hnum
  clear hcells hP h ho TB rb2 rb3 hwbs hnum
  unfold ptr strV opC at *
  rcases hkind with hk | hk | hk | hk | hk
  · subst hk
    have eS : doS s ⟨1, who, nm, .slice va data.length vc, data, n, t, .slice ka kn kc, keep, junk⟩ = appS s nm data := by simp [doS]
    rw [eS]
    go_enter Try.func56, Try.ntmps56
    go_wp2_with fail
    refine hroom.mono ?_
    rintro e w1 ⟨g, c, rfl, hO1, hg1, T1⟩
    obtain ⟨X, hX⟩ : ∃ X : Nat → Prop, X = (fun k => Y k ∨ (w.heap.size ≤ k ∧ k < w1.heap.size)) := ⟨_, rfl⟩
    have hs1 := T1.size
    have hws := HWBS.out
    have hXg : X g := by rw [hX]; exact Or.inr ⟨by omega, hO1.lt rfl⟩
    have hXb2 : X w.heap.size := by rw [hX]; exact Or.inr ⟨by omega, by omega⟩
    have hXb3 : X (w.heap.size + 1) := by rw [hX]; exact Or.inr ⟨by omega, by omega⟩
    have hXlt : ∀ k, X k → k < w1.heap.size := fun k hk => by rw [hX] at hk; rcases hk with e | e; (have := hY k e; omega); exact e.2
    have hXge : ∀ k, X k → Y k ∨ w.heap.size ≤ k := fun k hk => by rw [hX] at hk; exact hk.imp id (fun e => e.1)
    have HYX : Shut (∀ k, Y k → X k) := fun k e => by rw [hX]; exact Or.inl e
    have T01 := HTB.out.then_no T1
    have hP1 : Pr B X w1 p q s s := (HP.out.avoid hXge).turn_no T01
    have hcap : data.length ≤ c := by
      rcases hO1.shape with ⟨e, _⟩ | ⟨_, cap, _, e, _, h1, _⟩
      · cases e
      · simp at e h1
        have := e.2.2
        omega
    have hcap' : (data.length : Int) ≤ (c : Int) := by omega
    have hcap2 : ¬ (c : Int) < (data.length : Int) := by omega
    have hBs1 : Bs w1 (.slice (some ⟨g, 0, none⟩) data.length c) data := by
      obtain ⟨a', c', e, _, hBt⟩ := take_bs hO1 data.length (by simp)
      simp at e
      obtain ⟨e1, _, e3⟩ := e
      rw [← e1, ← e3] at hBt
      simpa using hBt
    have y := HC.out w1 (fun k hk => T1.block k (by omega) (fun q => q))
    obtain ⟨y0, y1, y2, y3, y4, y5⟩ := y
    have hB1 : B ≤ w1.heap.size := by have := T01.size; omega
    have hc1 := hP1.fst hB1 hXlt (fun K hD hK => append12 hD hn nm HO.out.nm (.slice (some ⟨g, 0, none⟩) data.length c) data hBs1 (fun hne g' hg' hk' => by cases hg'; exact (hK _ hk').2 hXg))
    have hc2 : ∀ W, Pr B X W p q (appS s nm data).1 s → Turn (out B X) w1 W → _ := fun W hPW t => hPW.snd (Nat.le_trans hB1 t.size) (fun k hk => Nat.lt_of_lt_of_le (hXlt k hk) t.size) (r := appS s nm data) (f := 22) (fun L hR hL => rappend22 hR hn hm nm HO.out.nm (.slice va data.length vc) data (HO.out.turn ((T01.of_no (S := old B)).trans t (fun k _ e => e.1)) (fun k hk => hk)).data (fun hne g' hg' hl' => by have h1 := HO.out.dold hne g' hg'; have h2 := (hL g' hl').1; omega))
    have HO1 := shut hO1
    have HC2 := shut hc2
    have HXG := shut hXg
    have HXB2 := shut hXb2
    have HXB3 := shut hXb3
    have HT01 := shut T01
    have HT1 := shut T1
    have HXLT := shut hXlt
    have HXGE : Shut (w.heap.size ≤ g) := by show w.heap.size ≤ g; omega
    clear hO1 hc2 hXg hXb2 hXb3 T01 T1 hXlt hXge hP1 hBs1 hroom hX hws hg1 x0 x1 x2 x3 x4 x5 hcap hB1
    generalize hr : appS s nm data = r at *
    try unfold ptr at *
    try unfold strV at *
    go_wp2_with fail
    refine hc1.mono ?_
    rintro e w2 ⟨rfl, hP2, T2⟩
    have hcell2 := HC.out w2 (fun k hk => by
      have hXk : X k := by rcases hk with e | e; rw [e]; exact HXB2.out; rw [e]; exact HXB3.out
      rw [T2.block k (HXLT.out k hXk) (fun e => e.2 hXk)]
      exact HT1.out.block k (by have := HWBS.out; omega) (fun q => q))
    obtain ⟨z0, z1, z2, z3, z4, z5⟩ := hcell2
    have hc3 := HC2.out w2 hP2 T2
    have HP2 := shut hP2
    have HT2 := shut T2
    clear hc1 hP2 T2 y0 y1 y2 y3 y4 y5
    try unfold ptr at *
    try unfold strV at *
    go_wp2_with fail
    refine hc3.mono ?_
    rintro e w3 ⟨rfl, hP3, T3⟩
    have T13 := HT2.out.trans T3 (fun _ _ q => q)
    have hcell3 := HC.out w3 (fun k hk => by
      have hXk : X k := by rcases hk with e | e; rw [e]; exact HXB2.out; rw [e]; exact HXB3.out
      rw [T13.block k (HXLT.out k hXk) (fun e => e.2 hXk)]
      exact HT1.out.block k (by have := HWBS.out; omega) (fun q => q))
    obtain ⟨u0, u1, u2, u3, u4, u5⟩ := hcell3
    have hO3 := HO1.out.turn T13 (fun k hk e => by cases hk; exact e.2 HXG.out)
    have T03 : Turn (out B Y) w w3 := (HT01.out.of_no).trans T13 (fun k _ e => ⟨e.1, fun y => e.2 (HYX.out k y)⟩)
    have hdat3 := (HO.out.turn T03 (fun k hk => hk.1)).data
    have hleft := left83 w3 g c data hdl hO3 (.slice va data.length vc) hdat3
    have HP3 := shut hP3
    have HO3 := shut hO3
    have HT03 := shut T03
    clear hc3 hP3 T3 T13 hO3 T03 hdat3 z0 z1 z2 z3 z4 z5
    try unfold ptr at *
    try unfold strV at *
    go_wp2_with fail
    refine hleft.mono ?_
    rintro e w4 ⟨rfl, T4⟩
    have hlen3 : data.length + 3 = (data ++ marks).length := by simp [marks]
    have hO4 := HO3.out.turn_no T4
    rw [hlen3] at hO4
    have hsp := spoil26 w4 g c (data ++ marks) (by rw [← hlen3]; omega) hO4
    rw [← hlen3] at hsp
    have HT4 := shut T4
    clear hleft T4 hO4 hlen3 u0 u1 u2 u3 u4 u5
    go_wp2_with fail
    refine hsp.mono ?_
    rintro e w5 ⟨rfl, _, T5⟩
    have FINP : Shut (Pr B Y w5 p q r.1 r.1) := ((HP3.out.turn_no HT4.out).turn_X (T5.mono (fun k _ e => by rw [e]; exact HXG.out))).free HYX.out
    have FINT : Shut (Turn (out B Y) w w5) := (HT03.out.then_no HT4.out).trans T5 (fun k hk e => by have := HXGE.out; omega)
    have hq1 := HNUM.out w5 r.2
    clear hsp T5
    go_wp2_with fail
    refine hq1.mono ?_
    rintro e w6 ⟨rfl, rfl⟩
    go_wp2_with fail
    refine hq1.mono ?_
    rintro e w7 ⟨rfl, rfl⟩
    go_wp2_with fail
    go_ret
    rw [hr]
    exact ⟨rfl, FINP.out, FINT.out⟩
  · subst hk
    have eS : doS s ⟨2, who, nm, .slice va data.length vc, data, n, t, .slice ka kn kc, keep, junk⟩ = syncS s nm := by simp [doS]
    rw [eS]
    go_enter Try.func56, Try.ntmps56
    go_wp2_with fail
    refine hroom.mono ?_
    rintro e w1 ⟨g, c, rfl, hO1, hg1, T1⟩
    obtain ⟨X, hX⟩ : ∃ X : Nat → Prop, X = (fun k => Y k ∨ (w.heap.size ≤ k ∧ k < w1.heap.size)) := ⟨_, rfl⟩
    have hs1 := T1.size
    have hws := HWBS.out
    have hXg : X g := by rw [hX]; exact Or.inr ⟨by omega, hO1.lt rfl⟩
    have hXb2 : X w.heap.size := by rw [hX]; exact Or.inr ⟨by omega, by omega⟩
    have hXb3 : X (w.heap.size + 1) := by rw [hX]; exact Or.inr ⟨by omega, by omega⟩
    have hXlt : ∀ k, X k → k < w1.heap.size := fun k hk => by rw [hX] at hk; rcases hk with e | e; (have := hY k e; omega); exact e.2
    have hXge : ∀ k, X k → Y k ∨ w.heap.size ≤ k := fun k hk => by rw [hX] at hk; exact hk.imp id (fun e => e.1)
    have HYX : Shut (∀ k, Y k → X k) := fun k e => by rw [hX]; exact Or.inl e
    have T01 := HTB.out.then_no T1
    have hP1 : Pr B X w1 p q s s := (HP.out.avoid hXge).turn_no T01
    have hcap : data.length ≤ c := by
      rcases hO1.shape with ⟨e, _⟩ | ⟨_, cap, _, e, _, h1, _⟩
      · cases e
      · simp at e h1
        have := e.2.2
        omega
    have hcap' : (data.length : Int) ≤ (c : Int) := by omega
    have hcap2 : ¬ (c : Int) < (data.length : Int) := by omega
    have hBs1 : Bs w1 (.slice (some ⟨g, 0, none⟩) data.length c) data := by
      obtain ⟨a', c', e, _, hBt⟩ := take_bs hO1 data.length (by simp)
      simp at e
      obtain ⟨e1, _, e3⟩ := e
      rw [← e1, ← e3] at hBt
      simpa using hBt
    have y := HC.out w1 (fun k hk => T1.block k (by omega) (fun q => q))
    obtain ⟨y0, y1, y2, y3, y4, y5⟩ := y
    have hB1 : B ≤ w1.heap.size := by have := T01.size; omega
    have hc1 := hP1.fst hB1 hXlt (fun K hD hK => sync42 hD hn nm HO.out.nm)
    have hc2 : ∀ W, Pr B X W p q (syncS s nm).1 s → Turn (out B X) w1 W → _ := fun W hPW t => hPW.snd (Nat.le_trans hB1 t.size) (fun k hk => Nat.lt_of_lt_of_le (hXlt k hk) t.size) (r := syncS s nm) (f := 80) (fun L hR hL => rsync80 hR hn hm nm HO.out.nm)
    have HO1 := shut hO1
    have HC2 := shut hc2
    have HXG := shut hXg
    have HXB2 := shut hXb2
    have HXB3 := shut hXb3
    have HT01 := shut T01
    have HT1 := shut T1
    have HXLT := shut hXlt
    have HXGE : Shut (w.heap.size ≤ g) := by show w.heap.size ≤ g; omega
    clear hO1 hc2 hXg hXb2 hXb3 T01 T1 hXlt hXge hP1 hBs1 hroom hX hws hg1 x0 x1 x2 x3 x4 x5 hcap hB1
    generalize hr : syncS s nm = r at *
    try unfold ptr at *
    try unfold strV at *
    go_wp2_with fail
    refine hc1.mono ?_
    rintro e w2 ⟨rfl, hP2, T2⟩
    have hcell2 := HC.out w2 (fun k hk => by
      have hXk : X k := by rcases hk with e | e; rw [e]; exact HXB2.out; rw [e]; exact HXB3.out
      rw [T2.block k (HXLT.out k hXk) (fun e => e.2 hXk)]
      exact HT1.out.block k (by have := HWBS.out; omega) (fun q => q))
    obtain ⟨z0, z1, z2, z3, z4, z5⟩ := hcell2
    have hc3 := HC2.out w2 hP2 T2
    have HP2 := shut hP2
    have HT2 := shut T2
    clear hc1 hP2 T2 y0 y1 y2 y3 y4 y5
    try unfold ptr at *
    try unfold strV at *
    go_wp2_with fail
    refine hc3.mono ?_
    rintro e w3 ⟨rfl, hP3, T3⟩
    have T13 := HT2.out.trans T3 (fun _ _ q => q)
    have hcell3 := HC.out w3 (fun k hk => by
      have hXk : X k := by rcases hk with e | e; rw [e]; exact HXB2.out; rw [e]; exact HXB3.out
      rw [T13.block k (HXLT.out k hXk) (fun e => e.2 hXk)]
      exact HT1.out.block k (by have := HWBS.out; omega) (fun q => q))
    obtain ⟨u0, u1, u2, u3, u4, u5⟩ := hcell3
    have hO3 := HO1.out.turn T13 (fun k hk e => by cases hk; exact e.2 HXG.out)
    have T03 : Turn (out B Y) w w3 := (HT01.out.of_no).trans T13 (fun k _ e => ⟨e.1, fun y => e.2 (HYX.out k y)⟩)
    have hdat3 := (HO.out.turn T03 (fun k hk => hk.1)).data
    have hleft := left83 w3 g c data hdl hO3 (.slice va data.length vc) hdat3
    have HP3 := shut hP3
    have HO3 := shut hO3
    have HT03 := shut T03
    clear hc3 hP3 T3 T13 hO3 T03 hdat3 z0 z1 z2 z3 z4 z5
    try unfold ptr at *
    try unfold strV at *
    go_wp2_with fail
    refine hleft.mono ?_
    rintro e w4 ⟨rfl, T4⟩
    have hlen3 : data.length + 3 = (data ++ marks).length := by simp [marks]
    have hO4 := HO3.out.turn_no T4
    rw [hlen3] at hO4
    have hsp := spoil26 w4 g c (data ++ marks) (by rw [← hlen3]; omega) hO4
    rw [← hlen3] at hsp
    have HT4 := shut T4
    clear hleft T4 hO4 hlen3 u0 u1 u2 u3 u4 u5
    go_wp2_with fail
    refine hsp.mono ?_
    rintro e w5 ⟨rfl, _, T5⟩
    have FINP : Shut (Pr B Y w5 p q r.1 r.1) := ((HP3.out.turn_no HT4.out).turn_X (T5.mono (fun k _ e => by rw [e]; exact HXG.out))).free HYX.out
    have FINT : Shut (Turn (out B Y) w w5) := (HT03.out.then_no HT4.out).trans T5 (fun k hk e => by have := HXGE.out; omega)
    have hq1 := HNUM.out w5 r.2
    clear hsp T5
    go_wp2_with fail
    refine hq1.mono ?_
    rintro e w6 ⟨rfl, rfl⟩
    go_wp2_with fail
    refine hq1.mono ?_
    rintro e w7 ⟨rfl, rfl⟩
    go_wp2_with fail
    go_ret
    rw [hr]
    exact ⟨rfl, FINP.out, FINT.out⟩
  · subst hk
    have eS : doS s ⟨3, who, nm, .slice va data.length vc, data, n, t, .slice ka kn kc, keep, junk⟩ = replS s nm data := by simp [doS]
    rw [eS]
    go_enter Try.func56, Try.ntmps56
    go_wp2_with fail
    refine hroom.mono ?_
    rintro e w1 ⟨g, c, rfl, hO1, hg1, T1⟩
    obtain ⟨X, hX⟩ : ∃ X : Nat → Prop, X = (fun k => Y k ∨ (w.heap.size ≤ k ∧ k < w1.heap.size)) := ⟨_, rfl⟩
    have hs1 := T1.size
    have hws := HWBS.out
    have hXg : X g := by rw [hX]; exact Or.inr ⟨by omega, hO1.lt rfl⟩
    have hXb2 : X w.heap.size := by rw [hX]; exact Or.inr ⟨by omega, by omega⟩
    have hXb3 : X (w.heap.size + 1) := by rw [hX]; exact Or.inr ⟨by omega, by omega⟩
    have hXlt : ∀ k, X k → k < w1.heap.size := fun k hk => by rw [hX] at hk; rcases hk with e | e; (have := hY k e; omega); exact e.2
    have hXge : ∀ k, X k → Y k ∨ w.heap.size ≤ k := fun k hk => by rw [hX] at hk; exact hk.imp id (fun e => e.1)
    have HYX : Shut (∀ k, Y k → X k) := fun k e => by rw [hX]; exact Or.inl e
    have T01 := HTB.out.then_no T1
    have hP1 : Pr B X w1 p q s s := (HP.out.avoid hXge).turn_no T01
    have hcap : data.length ≤ c := by
      rcases hO1.shape with ⟨e, _⟩ | ⟨_, cap, _, e, _, h1, _⟩
      · cases e
      · simp at e h1
        have := e.2.2
        omega
    have hcap' : (data.length : Int) ≤ (c : Int) := by omega
    have hcap2 : ¬ (c : Int) < (data.length : Int) := by omega
    have hBs1 : Bs w1 (.slice (some ⟨g, 0, none⟩) data.length c) data := by
      obtain ⟨a', c', e, _, hBt⟩ := take_bs hO1 data.length (by simp)
      simp at e
      obtain ⟨e1, _, e3⟩ := e
      rw [← e1, ← e3] at hBt
      simpa using hBt
    have y := HC.out w1 (fun k hk => T1.block k (by omega) (fun q => q))
    obtain ⟨y0, y1, y2, y3, y4, y5⟩ := y
    have hB1 : B ≤ w1.heap.size := by have := T01.size; omega
    have hc1 := hP1.fst hB1 hXlt (fun K hD hK => replace43 hD hn nm HO.out.nm (.slice (some ⟨g, 0, none⟩) data.length c) data hBs1 (fun hne g' hg' hk' => by cases hg'; exact (hK _ hk').2 hXg))
    have hc2 : ∀ W, Pr B X W p q (replS s nm data).1 s → Turn (out B X) w1 W → _ := fun W hPW t => hPW.snd (Nat.le_trans hB1 t.size) (fun k hk => Nat.lt_of_lt_of_le (hXlt k hk) t.size) (r := replS s nm data) (f := 24) (fun L hR hL => rreplace24 hR hn hm nm HO.out.nm (.slice va data.length vc) data (HO.out.turn ((T01.of_no (S := old B)).trans t (fun k _ e => e.1)) (fun k hk => hk)).data (fun hne g' hg' hl' => by have h1 := HO.out.dold hne g' hg'; have h2 := (hL g' hl').1; omega))
    have HO1 := shut hO1
    have HC2 := shut hc2
    have HXG := shut hXg
    have HXB2 := shut hXb2
    have HXB3 := shut hXb3
    have HT01 := shut T01
    have HT1 := shut T1
    have HXLT := shut hXlt
    have HXGE : Shut (w.heap.size ≤ g) := by show w.heap.size ≤ g; omega
    clear hO1 hc2 hXg hXb2 hXb3 T01 T1 hXlt hXge hP1 hBs1 hroom hX hws hg1 x0 x1 x2 x3 x4 x5 hcap hB1
    generalize hr : replS s nm data = r at *
    try unfold ptr at *
    try unfold strV at *
    go_wp2_with fail
    refine hc1.mono ?_
    rintro e w2 ⟨rfl, hP2, T2⟩
    have hcell2 := HC.out w2 (fun k hk => by
      have hXk : X k := by rcases hk with e | e; rw [e]; exact HXB2.out; rw [e]; exact HXB3.out
      rw [T2.block k (HXLT.out k hXk) (fun e => e.2 hXk)]
      exact HT1.out.block k (by have := HWBS.out; omega) (fun q => q))
    obtain ⟨z0, z1, z2, z3, z4, z5⟩ := hcell2
    have hc3 := HC2.out w2 hP2 T2
    have HP2 := shut hP2
    have HT2 := shut T2
    clear hc1 hP2 T2 y0 y1 y2 y3 y4 y5
    try unfold ptr at *
    try unfold strV at *
    go_wp2_with fail
    refine hc3.mono ?_
    rintro e w3 ⟨rfl, hP3, T3⟩
    have T13 := HT2.out.trans T3 (fun _ _ q => q)
    have hcell3 := HC.out w3 (fun k hk => by
      have hXk : X k := by rcases hk with e | e; rw [e]; exact HXB2.out; rw [e]; exact HXB3.out
      rw [T13.block k (HXLT.out k hXk) (fun e => e.2 hXk)]
      exact HT1.out.block k (by have := HWBS.out; omega) (fun q => q))
    obtain ⟨u0, u1, u2, u3, u4, u5⟩ := hcell3
    have hO3 := HO1.out.turn T13 (fun k hk e => by cases hk; exact e.2 HXG.out)
    have T03 : Turn (out B Y) w w3 := (HT01.out.of_no).trans T13 (fun k _ e => ⟨e.1, fun y => e.2 (HYX.out k y)⟩)
    have hdat3 := (HO.out.turn T03 (fun k hk => hk.1)).data
    have hleft := left83 w3 g c data hdl hO3 (.slice va data.length vc) hdat3
    have HP3 := shut hP3
    have HO3 := shut hO3
    have HT03 := shut T03
    clear hc3 hP3 T3 T13 hO3 T03 hdat3 z0 z1 z2 z3 z4 z5
    try unfold ptr at *
    try unfold strV at *
    go_wp2_with fail
    refine hleft.mono ?_
    rintro e w4 ⟨rfl, T4⟩
    have hlen3 : data.length + 3 = (data ++ marks).length := by simp [marks]
    have hO4 := HO3.out.turn_no T4
    rw [hlen3] at hO4
    have hsp := spoil26 w4 g c (data ++ marks) (by rw [← hlen3]; omega) hO4
    rw [← hlen3] at hsp
    have HT4 := shut T4
    clear hleft T4 hO4 hlen3 u0 u1 u2 u3 u4 u5
    go_wp2_with fail
    refine hsp.mono ?_
    rintro e w5 ⟨rfl, _, T5⟩
    have FINP : Shut (Pr B Y w5 p q r.1 r.1) := ((HP3.out.turn_no HT4.out).turn_X (T5.mono (fun k _ e => by rw [e]; exact HXG.out))).free HYX.out
    have FINT : Shut (Turn (out B Y) w w5) := (HT03.out.then_no HT4.out).trans T5 (fun k hk e => by have := HXGE.out; omega)
    have hq1 := HNUM.out w5 r.2
    clear hsp T5
    go_wp2_with fail
    refine hq1.mono ?_
    rintro e w6 ⟨rfl, rfl⟩
    go_wp2_with fail
    refine hq1.mono ?_
    rintro e w7 ⟨rfl, rfl⟩
    go_wp2_with fail
    go_ret
    rw [hr]
    exact ⟨rfl, FINP.out, FINT.out⟩
  · subst hk
    have eS : doS s ⟨4, who, nm, .slice va data.length vc, data, n, t, .slice ka kn kc, keep, junk⟩ = cutS s nm n := by simp [doS]
    rw [eS]
    go_enter Try.func56, Try.ntmps56
    go_wp2_with fail
    refine hroom.mono ?_
    rintro e w1 ⟨g, c, rfl, hO1, hg1, T1⟩
    obtain ⟨X, hX⟩ : ∃ X : Nat → Prop, X = (fun k => Y k ∨ (w.heap.size ≤ k ∧ k < w1.heap.size)) := ⟨_, rfl⟩
    have hs1 := T1.size
    have hws := HWBS.out
    have hXg : X g := by rw [hX]; exact Or.inr ⟨by omega, hO1.lt rfl⟩
    have hXb2 : X w.heap.size := by rw [hX]; exact Or.inr ⟨by omega, by omega⟩
    have hXb3 : X (w.heap.size + 1) := by rw [hX]; exact Or.inr ⟨by omega, by omega⟩
    have hXlt : ∀ k, X k → k < w1.heap.size := fun k hk => by rw [hX] at hk; rcases hk with e | e; (have := hY k e; omega); exact e.2
    have hXge : ∀ k, X k → Y k ∨ w.heap.size ≤ k := fun k hk => by rw [hX] at hk; exact hk.imp id (fun e => e.1)
    have HYX : Shut (∀ k, Y k → X k) := fun k e => by rw [hX]; exact Or.inl e
    have T01 := HTB.out.then_no T1
    have hP1 : Pr B X w1 p q s s := (HP.out.avoid hXge).turn_no T01
    have hcap : data.length ≤ c := by
      rcases hO1.shape with ⟨e, _⟩ | ⟨_, cap, _, e, _, h1, _⟩
      · cases e
      · simp at e h1
        have := e.2.2
        omega
    have hcap' : (data.length : Int) ≤ (c : Int) := by omega
    have hcap2 : ¬ (c : Int) < (data.length : Int) := by omega
    have hBs1 : Bs w1 (.slice (some ⟨g, 0, none⟩) data.length c) data := by
      obtain ⟨a', c', e, _, hBt⟩ := take_bs hO1 data.length (by simp)
      simp at e
      obtain ⟨e1, _, e3⟩ := e
      rw [← e1, ← e3] at hBt
      simpa using hBt
    have y := HC.out w1 (fun k hk => T1.block k (by omega) (fun q => q))
    obtain ⟨y0, y1, y2, y3, y4, y5⟩ := y
    have hB1 : B ≤ w1.heap.size := by have := T01.size; omega
    have hc1 := hP1.fst hB1 hXlt (fun K hD hK => cut44 hD hn nm HO.out.nm n)
    have hc2 : ∀ W, Pr B X W p q (cutS s nm n).1 s → Turn (out B X) w1 W → _ := fun W hPW t => hPW.snd (Nat.le_trans hB1 t.size) (fun k hk => Nat.lt_of_lt_of_le (hXlt k hk) t.size) (r := cutS s nm n) (f := 81) (fun L hR hL => rcut81 hR hn hm nm HO.out.nm n)
    have HO1 := shut hO1
    have HC2 := shut hc2
    have HXG := shut hXg
    have HXB2 := shut hXb2
    have HXB3 := shut hXb3
    have HT01 := shut T01
    have HT1 := shut T1
    have HXLT := shut hXlt
    have HXGE : Shut (w.heap.size ≤ g) := by show w.heap.size ≤ g; omega
    clear hO1 hc2 hXg hXb2 hXb3 T01 T1 hXlt hXge hP1 hBs1 hroom hX hws hg1 x0 x1 x2 x3 x4 x5 hcap hB1
    generalize hr : cutS s nm n = r at *
    try unfold ptr at *
    try unfold strV at *
    go_wp2_with fail
    refine hc1.mono ?_
    rintro e w2 ⟨rfl, hP2, T2⟩
    have hcell2 := HC.out w2 (fun k hk => by
      have hXk : X k := by rcases hk with e | e; rw [e]; exact HXB2.out; rw [e]; exact HXB3.out
      rw [T2.block k (HXLT.out k hXk) (fun e => e.2 hXk)]
      exact HT1.out.block k (by have := HWBS.out; omega) (fun q => q))
    obtain ⟨z0, z1, z2, z3, z4, z5⟩ := hcell2
    have hc3 := HC2.out w2 hP2 T2
    have HP2 := shut hP2
    have HT2 := shut T2
    clear hc1 hP2 T2 y0 y1 y2 y3 y4 y5
    try unfold ptr at *
    try unfold strV at *
    go_wp2_with fail
    refine hc3.mono ?_
    rintro e w3 ⟨rfl, hP3, T3⟩
    have T13 := HT2.out.trans T3 (fun _ _ q => q)
    have hcell3 := HC.out w3 (fun k hk => by
      have hXk : X k := by rcases hk with e | e; rw [e]; exact HXB2.out; rw [e]; exact HXB3.out
      rw [T13.block k (HXLT.out k hXk) (fun e => e.2 hXk)]
      exact HT1.out.block k (by have := HWBS.out; omega) (fun q => q))
    obtain ⟨u0, u1, u2, u3, u4, u5⟩ := hcell3
    have hO3 := HO1.out.turn T13 (fun k hk e => by cases hk; exact e.2 HXG.out)
    have T03 : Turn (out B Y) w w3 := (HT01.out.of_no).trans T13 (fun k _ e => ⟨e.1, fun y => e.2 (HYX.out k y)⟩)
    have hdat3 := (HO.out.turn T03 (fun k hk => hk.1)).data
    have hleft := left83 w3 g c data hdl hO3 (.slice va data.length vc) hdat3
    have HP3 := shut hP3
    have HO3 := shut hO3
    have HT03 := shut T03
    clear hc3 hP3 T3 T13 hO3 T03 hdat3 z0 z1 z2 z3 z4 z5
    try unfold ptr at *
    try unfold strV at *
    go_wp2_with fail
    refine hleft.mono ?_
    rintro e w4 ⟨rfl, T4⟩
    have hlen3 : data.length + 3 = (data ++ marks).length := by simp [marks]
    have hO4 := HO3.out.turn_no T4
    rw [hlen3] at hO4
    have hsp := spoil26 w4 g c (data ++ marks) (by rw [← hlen3]; omega) hO4
    rw [← hlen3] at hsp
    have HT4 := shut T4
    clear hleft T4 hO4 hlen3 u0 u1 u2 u3 u4 u5
    go_wp2_with fail
    refine hsp.mono ?_
    rintro e w5 ⟨rfl, _, T5⟩
    have FINP : Shut (Pr B Y w5 p q r.1 r.1) := ((HP3.out.turn_no HT4.out).turn_X (T5.mono (fun k _ e => by rw [e]; exact HXG.out))).free HYX.out
    have FINT : Shut (Turn (out B Y) w w5) := (HT03.out.then_no HT4.out).trans T5 (fun k hk e => by have := HXGE.out; omega)
    have hq1 := HNUM.out w5 r.2
    clear hsp T5
    go_wp2_with fail
    refine hq1.mono ?_
    rintro e w6 ⟨rfl, rfl⟩
    go_wp2_with fail
    refine hq1.mono ?_
    rintro e w7 ⟨rfl, rfl⟩
    go_wp2_with fail
    go_ret
    rw [hr]
    exact ⟨rfl, FINP.out, FINT.out⟩
  · subst hk
    have eS : doS s ⟨5, who, nm, .slice va data.length vc, data, n, t, .slice ka kn kc, keep, junk⟩ = remS s nm := by simp [doS]
    rw [eS]
    go_enter Try.func56, Try.ntmps56
    go_wp2_with fail
    refine hroom.mono ?_
    rintro e w1 ⟨g, c, rfl, hO1, hg1, T1⟩
    obtain ⟨X, hX⟩ : ∃ X : Nat → Prop, X = (fun k => Y k ∨ (w.heap.size ≤ k ∧ k < w1.heap.size)) := ⟨_, rfl⟩
    have hs1 := T1.size
    have hws := HWBS.out
    have hXg : X g := by rw [hX]; exact Or.inr ⟨by omega, hO1.lt rfl⟩
    have hXb2 : X w.heap.size := by rw [hX]; exact Or.inr ⟨by omega, by omega⟩
    have hXb3 : X (w.heap.size + 1) := by rw [hX]; exact Or.inr ⟨by omega, by omega⟩
    have hXlt : ∀ k, X k → k < w1.heap.size := fun k hk => by rw [hX] at hk; rcases hk with e | e; (have := hY k e; omega); exact e.2
    have hXge : ∀ k, X k → Y k ∨ w.heap.size ≤ k := fun k hk => by rw [hX] at hk; exact hk.imp id (fun e => e.1)
    have HYX : Shut (∀ k, Y k → X k) := fun k e => by rw [hX]; exact Or.inl e
    have T01 := HTB.out.then_no T1
    have hP1 : Pr B X w1 p q s s := (HP.out.avoid hXge).turn_no T01
    have hcap : data.length ≤ c := by
      rcases hO1.shape with ⟨e, _⟩ | ⟨_, cap, _, e, _, h1, _⟩
      · cases e
      · simp at e h1
        have := e.2.2
        omega
    have hcap' : (data.length : Int) ≤ (c : Int) := by omega
    have hcap2 : ¬ (c : Int) < (data.length : Int) := by omega
    have hBs1 : Bs w1 (.slice (some ⟨g, 0, none⟩) data.length c) data := by
      obtain ⟨a', c', e, _, hBt⟩ := take_bs hO1 data.length (by simp)
      simp at e
      obtain ⟨e1, _, e3⟩ := e
      rw [← e1, ← e3] at hBt
      simpa using hBt
    have y := HC.out w1 (fun k hk => T1.block k (by omega) (fun q => q))
    obtain ⟨y0, y1, y2, y3, y4, y5⟩ := y
    have hB1 : B ≤ w1.heap.size := by have := T01.size; omega
    have hc1 := hP1.fst hB1 hXlt (fun K hD hK => remove45 hD hn nm HO.out.nm)
    have hc2 : ∀ W, Pr B X W p q (remS s nm).1 s → Turn (out B X) w1 W → _ := fun W hPW t => hPW.snd (Nat.le_trans hB1 t.size) (fun k hk => Nat.lt_of_lt_of_le (hXlt k hk) t.size) (r := remS s nm) (f := 82) (fun L hR hL => rremove82 hR hn hm nm HO.out.nm)
    have HO1 := shut hO1
    have HC2 := shut hc2
    have HXG := shut hXg
    have HXB2 := shut hXb2
    have HXB3 := shut hXb3
    have HT01 := shut T01
    have HT1 := shut T1
    have HXLT := shut hXlt
    have HXGE : Shut (w.heap.size ≤ g) := by show w.heap.size ≤ g; omega
    clear hO1 hc2 hXg hXb2 hXb3 T01 T1 hXlt hXge hP1 hBs1 hroom hX hws hg1 x0 x1 x2 x3 x4 x5 hcap hB1
    generalize hr : remS s nm = r at *
    try unfold ptr at *
    try unfold strV at *
    go_wp2_with fail
    refine hc1.mono ?_
    rintro e w2 ⟨rfl, hP2, T2⟩
    have hcell2 := HC.out w2 (fun k hk => by
      have hXk : X k := by rcases hk with e | e; rw [e]; exact HXB2.out; rw [e]; exact HXB3.out
      rw [T2.block k (HXLT.out k hXk) (fun e => e.2 hXk)]
      exact HT1.out.block k (by have := HWBS.out; omega) (fun q => q))
    obtain ⟨z0, z1, z2, z3, z4, z5⟩ := hcell2
    have hc3 := HC2.out w2 hP2 T2
    have HP2 := shut hP2
    have HT2 := shut T2
    clear hc1 hP2 T2 y0 y1 y2 y3 y4 y5
    try unfold ptr at *
    try unfold strV at *
    go_wp2_with fail
    refine hc3.mono ?_
    rintro e w3 ⟨rfl, hP3, T3⟩
    have T13 := HT2.out.trans T3 (fun _ _ q => q)
    have hcell3 := HC.out w3 (fun k hk => by
      have hXk : X k := by rcases hk with e | e; rw [e]; exact HXB2.out; rw [e]; exact HXB3.out
      rw [T13.block k (HXLT.out k hXk) (fun e => e.2 hXk)]
      exact HT1.out.block k (by have := HWBS.out; omega) (fun q => q))
    obtain ⟨u0, u1, u2, u3, u4, u5⟩ := hcell3
    have hO3 := HO1.out.turn T13 (fun k hk e => by cases hk; exact e.2 HXG.out)
    have T03 : Turn (out B Y) w w3 := (HT01.out.of_no).trans T13 (fun k _ e => ⟨e.1, fun y => e.2 (HYX.out k y)⟩)
    have hdat3 := (HO.out.turn T03 (fun k hk => hk.1)).data
    have hleft := left83 w3 g c data hdl hO3 (.slice va data.length vc) hdat3
    have HP3 := shut hP3
    have HO3 := shut hO3
    have HT03 := shut T03
    clear hc3 hP3 T3 T13 hO3 T03 hdat3 z0 z1 z2 z3 z4 z5
    try unfold ptr at *
    try unfold strV at *
    go_wp2_with fail
    refine hleft.mono ?_
    rintro e w4 ⟨rfl, T4⟩
    have hlen3 : data.length + 3 = (data ++ marks).length := by simp [marks]
    have hO4 := HO3.out.turn_no T4
    rw [hlen3] at hO4
    have hsp := spoil26 w4 g c (data ++ marks) (by rw [← hlen3]; omega) hO4
    rw [← hlen3] at hsp
    have HT4 := shut T4
    clear hleft T4 hO4 hlen3 u0 u1 u2 u3 u4 u5
    go_wp2_with fail
    refine hsp.mono ?_
    rintro e w5 ⟨rfl, _, T5⟩
    have FINP : Shut (Pr B Y w5 p q r.1 r.1) := ((HP3.out.turn_no HT4.out).turn_X (T5.mono (fun k _ e => by rw [e]; exact HXG.out))).free HYX.out
    have FINT : Shut (Turn (out B Y) w w5) := (HT03.out.then_no HT4.out).trans T5 (fun k hk e => by have := HXGE.out; omega)
    have hq1 := HNUM.out w5 r.2
    clear hsp T5
    go_wp2_with fail
    refine hq1.mono ?_
    rintro e w6 ⟨rfl, rfl⟩
    go_wp2_with fail
    refine hq1.mono ?_
    rintro e w7 ⟨rfl, rfl⟩
    go_wp2_with fail
    go_ret
    rw [hr]
    exact ⟨rfl, FINP.out, FINT.out⟩
end
end Go.Proofs.Ytcdogciacchigab
