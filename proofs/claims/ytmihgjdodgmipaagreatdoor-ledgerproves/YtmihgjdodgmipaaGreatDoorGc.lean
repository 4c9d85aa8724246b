/- Texts in one. -/
import Derived.Test.YtmihgjdodgmipaaGreatDoorGb
import Derived.Test.YtmihgjdodgmipaaGreatDoorCm
/- sameLedger, sameMembers, cut. -/
namespace Go.Proofs.YtmihgjdodgmipaaGreatDoor
open Go.RowKit
set_option linter.unusedVariables false

set_option maxRecDepth 100000 in
set_option maxHeartbeats 8000000 in
theorem same16 (w : World) (va vr ua ur : Value) (l : List Ac) (r : List Rl) (ha : As w va l) (hr : Rs w vr r) (ha' : As w ua l) (hr' : Rs w ur r) (b s : Int) : Calls Tryz.prog 34 #[.agg #[va, vr, .int .u64 b, .int .u64 s], .agg #[ua, ur, .int .u64 b, .int .u64 s]] w fun e w' => e = .returned (.bool true) ∧ Turn no w w' := by
  obtain ⟨a, ac, rfl, hA⟩ := ha
  obtain ⟨p, pc, rfl, hP⟩ := hr
  obtain ⟨a', ac', rfl, hA'⟩ := ha'
  obtain ⟨p', pc', rfl, hP'⟩ := hr'
  have hle : l.length ≤ 9223372036854775807 := by have := hA.le; have := hA.cap; simp only [maxLen] at this; omega
  have hle2 : r.length ≤ 9223372036854775807 := by have := hP.le; have := hP.cap; simp only [maxLen] at this; omega
  obtain ⟨n, hn⟩ : ∃ n, Hid (l.length = n) := ⟨_, rfl⟩
  have hn' : l.length = n := hn.out
  obtain ⟨k, hk⟩ : ∃ k, Hid (r.length = k) := ⟨_, rfl⟩
  have hk' : r.length = k := hk.out
  rw [hn'] at hle
  rw [hk'] at hle2
  rw [hn', hk']
  obtain ⟨w0, hw0⟩ : ∃ w0, (w.alloc (.cells #[.slice a n ac, .slice p k pc, .int .u64 b, .int .u64 s] 26)).alloc (.cells #[.slice a' n ac', .slice p' k pc', .int .u64 b, .int .u64 s] 26) = w0 := ⟨_, rfl⟩
  have T0 : Turn no w w0 := by rw [← hw0]; exact ((Turn.refl no w).alloc _).alloc _
  have B0 : Row w0 w.heap.size #[.slice a n ac, .slice p k pc, .int .u64 b, .int .u64 s] 26 := by rw [← hw0]; exact (Row.new w _ 26).alloc _
  have B1 : Row w0 (w.heap.size + 1) #[.slice a' n ac', .slice p' k pc', .int .u64 b, .int .u64 s] 26 := by rw [← hw0]; exact Row.newAt _ _ _ _ (by simp)
  have HY : Shut (∀ W, Turn no w0 W → W.cell? ⟨w.heap.size, 0, none⟩ = some (.slice a n ac) ∧ W.cell? ⟨w.heap.size, 1, none⟩ = some (.slice p k pc) ∧ W.cell? ⟨w.heap.size + 1, 0, none⟩ = some (.slice a' n ac') ∧ W.cell? ⟨w.heap.size + 1, 1, none⟩ = some (.slice p' k pc')) := fun W t =>
    ⟨t.keep (B0.cell 0 _ rfl) (fun q => q), t.keep (B0.cell 1 _ rfl) (fun q => q), t.keep (B1.cell 0 _ rfl) (fun q => q), t.keep (B1.cell 1 _ rfl) (fun q => q)⟩
  have x2 := B0.cell 2 _ rfl
  have x3 := B0.cell 3 _ rfl
  have y2 := B1.cell 2 _ rfl
  have y3 := B1.cell 3 _ rfl
  obtain ⟨x0, x1, y0, y1⟩ := HY.out w0 (Turn.refl no w0)
  have HT0 := shut T0
  have HA := shut hA
  have HA' := shut hA'
  have HP := shut hP
  have HP' := shut hP'
  clear hA hA' hP hP' T0 B0 B1 hn' hk'
  go_enter Tryz.func34, Tryz.ntmps34
  go_upto_region 1 with fail
  try rw [hw0]
  go_wp2_with fail
  clear x0 x1 x2 x3 y0 y1 y2 y3 hw0
  go_loopw [5] (fun c wr => ∃ i : Nat, i ≤ n ∧ c = .int .i64 i ∧ Turn no w0 wr) (fun c _ => n - (intOf c).toNat)
  case atStart => exact ⟨0, by omega, rfl, Turn.refl _ _⟩
  case round =>
    obtain ⟨i, hi, rfl, T⟩ := hrel
    obtain ⟨x0, x1, y0, y1⟩ := HY.out wr T
    by_cases hlt : i < n
    · obtain ⟨m, hm⟩ : ∃ m, l[i]? = some m := ⟨l[i]'(by rw [hn.out]; exact hlt), List.getElem?_eq_getElem _⟩
      obtain ⟨bb, off, rfl, c0, c1, c2, c3, c4⟩ := (HA.out.turn_no (HT0.out.then_no T)).cells i m hm
      obtain ⟨bb', off', rfl, d0, d1, d2, d3, d4⟩ := (HA'.out.turn_no (HT0.out.then_no T)).cells i m hm
      have hlt' : (i : Int) < (n : Int) := by omega
      clear hm x1 y1
      go_wp2_with fail
      go_quiet (fail)
      go_wp2_with fail
      go_roundw
      case rel => exact ⟨i + 1, by omega, by go_num, T.drewN _⟩
      case measure => simp [intOf]; omega
    · have hin : i = n := by omega
      subst hin
      have hlt' : ¬ (i : Int) < (i : Int) := by omega
      have HT := shut T
      clear hi hlt
      go_wp2_with fail
      clear x0 x1 y0 y1 T
      go_loopw [6] (fun c wq => ∃ j : Nat, j ≤ k ∧ c = .int .i64 j ∧ Turn no wr wq) (fun c _ => k - (intOf c).toNat)
      case atStart => exact ⟨0, by omega, rfl, Turn.refl _ _⟩
      case round =>
        obtain ⟨j, hj, rfl, T⟩ := hrel
        rename_i wq
        obtain ⟨x0, x1, y0, y1⟩ := HY.out _ (HT.out.then_no T)
        by_cases hlt2 : j < k
        · obtain ⟨m, hm⟩ : ∃ m, r[j]? = some m := ⟨r[j]'(by rw [hk.out]; exact hlt2), List.getElem?_eq_getElem _⟩
          obtain ⟨bb, off, rfl, c0, c1, c2, c3⟩ := (HP.out.turn_no (HT0.out.then_no (HT.out.then_no T))).cells j m hm
          obtain ⟨bb', off', rfl, d0, d1, d2, d3⟩ := (HP'.out.turn_no (HT0.out.then_no (HT.out.then_no T))).cells j m hm
          have hlt2' : (j : Int) < (k : Int) := by omega
          clear hm x0 y0
          go_wp2_with fail
          go_quiet (fail)
          go_wp2_with fail
          go_roundw
          case rel => exact ⟨j + 1, by omega, by go_num, T.drewN _⟩
          case measure => simp [intOf]; omega
        · have hjk : j = k := by omega
          subst hjk
          have hlt2' : ¬ (j : Int) < (j : Int) := by omega
          have HT2 := shut (HT0.out.then_no (HT.out.then_no T))
          clear hj hlt2 T
          go_wp2_with fail
          go_ret
          exact ⟨rfl, HT2.out⟩
set_option maxRecDepth 100000 in
set_option maxHeartbeats 4000000 in
theorem cut12 (w : World) (a p : Option Addr) (n k ac pc : Nat) (h1 : n + 2 ≤ ac) (h2 : ac ≤ maxLen) (h3 : k + 2 ≤ pc) (h4 : pc ≤ maxLen) (b s : Int) : Calls Tryz.prog 7 #[.agg #[.slice a (n + 2) ac, .slice p (k + 2) pc, .int .u64 b, .int .u64 s]] w fun e w' => e = .returned (.agg #[.slice a n ac, .slice p k pc, .int .u64 b, .int .u64 s]) ∧ Turn no w w' := by
  simp only [maxLen] at h2 h4
  obtain ⟨w0, hw0⟩ : ∃ w0, (w.alloc (.cells #[.slice a (n + 2) ac, .slice p (k + 2) pc, .int .u64 b, .int .u64 s] 26)).alloc (.cells #[.slice none 0 0, .slice none 0 0, .int .u64 0, .int .u64 0] 26) = w0 := ⟨_, rfl⟩
  have T0 : Turn no w w0 := by rw [← hw0]; exact ((Turn.refl no w).alloc _).alloc _
  have B0 : Row w0 w.heap.size #[.slice a (n + 2) ac, .slice p (k + 2) pc, .int .u64 b, .int .u64 s] 26 := by rw [← hw0]; exact (Row.new w _ 26).alloc _
  have B1 : Row w0 (w.heap.size + 1) #[.slice none 0 0, .slice none 0 0, .int .u64 0, .int .u64 0] 26 := by rw [← hw0]; exact Row.newAt _ _ _ _ (by simp)
  have x0 := B0.cell 0 _ rfl
  have f0 := B0.frozen 0
  have B2 := B0.set 0 (.slice a n ac)
  have T2 : Turn (fun k => k = w.heap.size) w0 (w0.setCell ⟨w.heap.size, 0, none⟩ (.slice a n ac)) := (Turn.refl (fun k => k = w.heap.size) w0).setCell (p := ⟨w.heap.size, 0, none⟩) (fun _ => rfl) _
  have x1 := B2.cell 1 _ rfl
  have f1 := B2.frozen 1
  have B3 : Row ((w0.setCell ⟨w.heap.size, 0, none⟩ (.slice a n ac)).setCell ⟨w.heap.size, 1, none⟩ (.slice p k pc)) w.heap.size #[.slice a n ac, .slice p k pc, .int .u64 b, .int .u64 s] 26 := B2.set 1 (.slice p k pc)
  have T3 : Turn (fun k => k = w.heap.size) w0 ((w0.setCell ⟨w.heap.size, 0, none⟩ (.slice a n ac)).setCell ⟨w.heap.size, 1, none⟩ (.slice p k pc)) := T2.setCell (p := ⟨w.heap.size, 1, none⟩) (fun _ => rfl) _
  have z0 := B3.cell 0 _ rfl
  have z1 := B3.cell 1 _ rfl
  have z2 := B3.cell 2 _ rfl
  have z3 := B3.cell 3 _ rfl
  have C3 := B1.turn T3 (fun q => by omega)
  have hn2 : IntKind.i64.wrap ((n : Int) + 2 - 2) = (n : Int) := by rw [IntKind.wrap_i64]; omega
  have hk2 : IntKind.i64.wrap ((k : Int) + 2 - 2) = (k : Int) := by rw [IntKind.wrap_i64]; omega
  have HC3 := shut C3
  have HT : Shut (Turn no w ((w0.setCell ⟨w.heap.size, 0, none⟩ (.slice a n ac)).setCell ⟨w.heap.size, 1, none⟩ (.slice p k pc))) := T0.trans T3 (fun i hi q => by omega)
  clear B0 B1 B2 B3 T2 T3 C3 T0
  go_enter Tryz.func7, Tryz.ntmps7
  go_upto_region 1 with fail
  try rw [hw0]
  clear hw0
  go_upto_region 3 with fail
  have hc3 := HC3.out
  have hi4 : (Tryz.prog.info? 26).map (·.size) = some (#[Value.slice a n ac, .slice p k pc, .int .u64 b, .int .u64 s]).size := by kernel_rfl
  have ho4 : (#[Value.slice a n ac, .slice p k pc, .int .u64 b, .int .u64 s]).all (·.oneCell') = true := by simp [Value.oneCell']
  go_wp2_with (refine wpList_store_anyN rfl rfl 26 (.tmp 2) (.tmp 19) rfl (w.heap.size + 1) #[.slice a n ac, .slice p k pc, .int .u64 b, .int .u64 s] rfl rfl 26 _ hc3 hi4 rfl ho4 ?_; intro w9 R9 T9)
  exact ⟨rfl, _, results_cell_row (g := w.heap.size + 1) (cs := #[.slice a n ac, .slice p k pc, .int .u64 b, .int .u64 s]) (t := 26) rfl _ _ _ _ rfl R9 Tryz.underlying26 rfl (by kernel_rfl), rfl, HT.out.trans T9 (fun i hi q => by omega)⟩
end Go.Proofs.YtmihgjdodgmipaaGreatDoor


/- roomy. -/
namespace Go.Proofs.YtmihgjdodgmipaaGreatDoor
open Go.RowKit
set_option linter.unusedVariables false

def rlC (l : List Rl) : List Value := l.flatMap (fun m => [.int .u64 m.ht, .int .u64 m.ad, .int .u64 m.born, .int .u64 m.amt])
theorem rlC_len (l : List Rl) : (rlC l).length = l.length * 4 := by
  induction l with
  | nil => rfl
  | cons m r ih => simp only [rlC, List.flatMap_cons, List.length_append, List.length_cons, List.length_nil] at ih ⊢; omega
theorem rlC_at : ∀ (l : List Rl) (j : Nat) (m : Rl), l[j]? = some m → ∀ i, i < 4 → (rlC l)[j * 4 + i]? = [Value.int .u64 m.ht, .int .u64 m.ad, .int .u64 m.born, .int .u64 m.amt][i]?
  | x :: r, 0, m, h, i, hi => by
    simp at h
    subst h
    rw [rlC, List.flatMap_cons, Nat.zero_mul, Nat.zero_add, List.getElem?_append_left (by simpa using hi)]
  | x :: r, j + 1, m, h, i, hi => by
    rw [rlC, List.flatMap_cons, List.getElem?_append_right (by simp; omega)]
    have := rlC_at r j m (by simpa using h) i hi
    rw [rlC] at this
    rw [← this]
    congr 1
    simp
    omega
theorem rlC_one (l : List Rl) : ∀ u ∈ rlC l, u.oneCell' = true := by
  intro u hu
  unfold rlC at hu
  rw [List.mem_flatMap] at hu
  obtain ⟨m, _, hm⟩ := hu
  simp at hm
  rcases hm with rfl | rfl | rfl | rfl <;> rfl
theorem acC_one (l : List Ac) : ∀ u ∈ acC l, u.oneCell' = true := by
  intro u hu
  unfold acC at hu
  rw [List.mem_flatMap] at hu
  obtain ⟨m, _, hm⟩ := hu
  simp at hm
  rcases hm with rfl | rfl | rfl | rfl | rfl <;> rfl
theorem rlC_append (l m : List Rl) : rlC (l ++ m) = rlC l ++ rlC m := by simp [rlC]
theorem RsAt.turn {S : Nat → Prop} {w w' : World} {a : Option Addr} {cap : Nat} {l : List Rl} (h : RsAt w a cap l) (t : Turn S w w') (hn : ∀ x, a = some x → ¬ S x.block) : RsAt w' a cap l :=
  ⟨h.le, h.cap, h.ok, fun j m hj => by
    obtain ⟨b, off, e, c0, c1, c2, c3⟩ := h.cells j m hj
    have hb := hn _ e
    exact ⟨b, off, e, t.keep c0 hb, t.keep c1 hb, t.keep c2 hb, t.keep c3 hb⟩⟩
theorem RsAt.src {w : World} {a : Addr} {cap : Nat} {l : List Rl} (h : RsAt w (some a) cap l) : Src Tryz.prog 4 23 (.slice (some a) l.length cap) l.length (rlC l) w := by
  refine Src.ofSlice w Tryz.underlying23 a l.length cap (rlC l) (rlC_len l) (fun j u hu => ?_) (rlC_one l)
  have hj : j < l.length * 4 := by rw [← rlC_len]; exact (List.getElem?_eq_some_iff.1 hu).1
  have hm : l[j / 4]? = some (l[j / 4]'(by omega)) := List.getElem?_eq_getElem (by omega)
  obtain ⟨b, off, e, c0, c1, c2, c3⟩ := h.cells _ _ hm
  cases e
  have hx := rlC_at l (j / 4) _ hm (j % 4) (by omega)
  have ej : j / 4 * 4 + j % 4 = j := by omega
  rw [ej, hu] at hx
  rw [Addr.add_lit]
  rcases (show j % 4 = 0 ∨ j % 4 = 1 ∨ j % 4 = 2 ∨ j % 4 = 3 by omega) with q | q | q | q <;> rw [q] at hx <;> simp at hx <;> subst hx
  · rw [show off + j = off + j / 4 * 4 by omega]; exact c0
  · rw [show off + j = off + j / 4 * 4 + 1 by omega]; exact c1
  · rw [show off + j = off + j / 4 * 4 + 2 by omega]; exact c2
  · rw [show off + j = off + j / 4 * 4 + 3 by omega]; exact c3
theorem As.src {w : World} {a : Option Addr} {cap : Nat} {l : List Ac} (h : AsAt w a cap l) : Src Tryz.prog 5 22 (.slice a l.length cap) l.length (acC l) w := by
  cases a with
  | some q => exact h.src
  | none =>
    have h0 : l = [] := by
      cases l with
      | nil => rfl
      | cons m r =>
        obtain ⟨_, _, e, _⟩ := h.cells 0 m rfl
        cases e
    subst h0
    exact Src.ofNil _ Tryz.underlying22 cap
theorem Rs.src {w : World} {a : Option Addr} {cap : Nat} {l : List Rl} (h : RsAt w a cap l) : Src Tryz.prog 4 23 (.slice a l.length cap) l.length (rlC l) w := by
  cases a with
  | some q => exact h.src
  | none =>
    have h0 : l = [] := by
      cases l with
      | nil => rfl
      | cons m r =>
        obtain ⟨_, _, e, _⟩ := h.cells 0 m rfl
        cases e
    subst h0
    exact Src.ofNil _ Tryz.underlying23 cap
theorem OwnN.rs {w : World} {v : Value} {l : List Rl} (h : OwnN w 58 4 v l.length (rlC l)) (hok : ∀ m ∈ l, m.ok) : Rs w v l := by
  obtain ⟨a, cap, rfl, h0, h1, h2, h3⟩ := h.form
  refine ⟨a, cap, rfl, h2, h3, hok, fun j m hj => ?_⟩
  have hjl := (List.getElem?_eq_some_iff.1 hj).1
  rcases h.2 with ⟨_, q⟩ | ⟨g, cap', cur, e, _⟩
  · omega
  · cases e
    have hc : ∀ i u, (rlC l)[i]? = some u → w.cell? ⟨g, i, none⟩ = some u := fun i u hu => by
      have := World.ownsRow.cells h (g := g) rfl i u hu
      simpa [Addr.add_lit] using this
    have hx := rlC_at l j m hj
    refine ⟨g, 0, rfl, ?_, ?_, ?_, ?_⟩
    · rw [Nat.zero_add]; exact hc _ _ (by have := hx 0 (by omega); simpa using this)
    · rw [Nat.zero_add]; exact hc _ _ (by have := hx 1 (by omega); simpa using this)
    · rw [Nat.zero_add]; exact hc _ _ (by have := hx 2 (by omega); simpa using this)
    · rw [Nat.zero_add]; exact hc _ _ (by have := hx 3 (by omega); simpa using this)
theorem info58 : (Tryz.prog.info? 58).map (fun i => (i.zero, i.size, i.bytes)) = some (some (.agg #[.int .u64 0, .int .u64 0, .int .u64 0, .int .u64 0]), 4, 32) := by kernel_rfl
/-- What stands behind the lists. -/
def acM : List Ac := [⟨777, 0, 0, 0, false⟩, ⟨778, 0, 0, 0, false⟩]
def rlM : List Rl := [⟨0, 777, 0, 0⟩, ⟨0, 778, 0, 0⟩]
theorem acM_ok : ∀ m ∈ acM, m.ok := by
  intro m hm
  simp [acM] at hm
  rcases hm with rfl | rfl <;> simp [Ac.ok]
theorem rlM_ok : ∀ m ∈ rlM, m.ok := by
  intro m hm
  simp [rlM] at hm
  rcases hm with rfl | rfl <;> simp [Rl.ok]
/-- A list and two behind it, of new memory: the first append, a store into another block, the second. -/
theorem room_two {P : Program} {t e : TypeId} {z : Value} {size bytes : Nat} (ht : P.underlying t = some (.slice e)) (hinf : (P.info? e).map (fun i => (i.zero, i.size, i.bytes)) = some (some z, size, bytes)) (hz : z.cells.size = size) (hsz : 0 < size)
    (w : World) (vs : Value) (n : Nat) (news : List Value) (hs : Src P size t vs n news w) (X : Array Value) (hX : X.size = 2 * size) (h1 : ∀ u ∈ X.toList, u.oneCell' = true) (hb : (n + 2) * bytes ≤ 140737488355328) (hm : n + 2 ≤ maxLen) (g j : Nat) (hg : g < w.heap.size) :
    ∃ a1 c1 w1 g2 c2 w2, (Builtin.append_ #[t, t] t #[.slice none 0 0, vs]).run P w = .ok (.slice a1 n c1) w1 ∧ Turn no w w1 ∧
      (Builtin.append_ #[t, t] t #[.slice a1 n c1, .slice (some ⟨(w1.setCell ⟨g, j, none⟩ (.slice a1 n c1)).heap.size, 0, none⟩) 2 2]).run P ((w1.setCell ⟨g, j, none⟩ (.slice a1 n c1)).alloc (.cells X e)) = .ok (.slice (some ⟨g2, 0, none⟩) (n + 2) c2) w2 ∧
      OwnN w2 e size (.slice (some ⟨g2, 0, none⟩) (n + 2) c2) (n + 2) (news ++ X.toList) ∧ w.heap.size ≤ g2 ∧ Turn (fun k => k = g) w w2 ∧ (∀ cs et, Row w g cs et → Row w2 g (cs.setIfInBounds j (.slice a1 n c1)) et) := by
  obtain ⟨v1, w1, r1, O1, G1⟩ := run_append_srcN (P := P) ht hinf hz hsz t w (.slice none 0 0) 0 [] (OwnN.nil w e size) vs n news hs (Nat.le_trans (Nat.mul_le_mul_right _ (by omega)) hb) (by omega)
  rw [Nat.zero_add, List.nil_append] at O1
  obtain ⟨a1, c1, e1, _⟩ := id O1.form
  subst e1
  have T1 : Turn no w w1 := G1.turn.mono (fun k hk q => by cases q)
  have f1 : ∀ q, (Value.slice a1 n c1).ownBlock = some q → w.heap.size ≤ q := G1.fresh (fun q hq => by cases hq) (Nat.le_refl _)
  have TS : Turn (fun k => k = g) w1 (w1.setCell ⟨g, j, none⟩ (.slice a1 n c1)) := (Turn.refl (fun k => k = g) w1).setCell (p := ⟨g, j, none⟩) (fun _ => rfl) _
  have TA : Turn no (w1.setCell ⟨g, j, none⟩ (.slice a1 n c1)) ((w1.setCell ⟨g, j, none⟩ (.slice a1 n c1)).alloc (.cells X e)) := (Turn.refl no _).alloc _
  have O2 := (O1.turn TS (fun q hq z => by have := f1 q hq; omega)).turn_no TA
  have R := Row.new (w1.setCell ⟨g, j, none⟩ (.slice a1 n c1)) X e
  have hsrc : Src P size t (.slice (some ⟨(w1.setCell ⟨g, j, none⟩ (.slice a1 n c1)).heap.size, 0, none⟩) 2 2) 2 X.toList ((w1.setCell ⟨g, j, none⟩ (.slice a1 n c1)).alloc (.cells X e)) := by
    refine Src.ofSlice _ ht _ _ _ _ (by simpa using hX) (fun i u hu => ?_) h1
    rw [Addr.add_lit, Nat.zero_add]
    exact R.cell i u (by simpa using hu)
  obtain ⟨v2, w2, r2, O3, G2⟩ := run_append_srcN (P := P) ht hinf hz hsz t _ (.slice a1 n c1) n news O2 _ 2 X.toList hsrc hb hm
  have T0 : Turn (fun k => k = g) w ((w1.setCell ⟨g, j, none⟩ (.slice a1 n c1)).alloc (.cells X e)) := (T1.of_no.trans TS (fun _ _ q => q)).then_no TA
  have hsz2 : w.heap.size ≤ ((w1.setCell ⟨g, j, none⟩ (.slice a1 n c1)).alloc (.cells X e)).heap.size := T0.size
  rcases O3.2 with ⟨_, q⟩ | ⟨g2, c2, cur, e2, _⟩
  · omega
  · subst e2
    refine ⟨a1, c1, w1, g2, c2, w2, r1, T1, r2, O3, G2.fresh f1 hsz2 g2 rfl, T0.trans G2.turn (fun k hk q => by have := f1 k q; omega), fun cs et hR => ?_⟩
    have R1 := ((hR.turn T1 (fun q => q)).set j (.slice a1 n c1)).turn TA (fun q => q)
    exact R1.turn G2.turn (fun q => by have := f1 g q; omega)
def acX : Array Value := #[.int .u64 777, .int .u64 0, .int .u64 0, .int .u64 0, .bool false, .int .u64 778, .int .u64 0, .int .u64 0, .int .u64 0, .bool false]
def rlX : Array Value := #[.int .u64 0, .int .u64 777, .int .u64 0, .int .u64 0, .int .u64 0, .int .u64 778, .int .u64 0, .int .u64 0]
theorem acX_eq : acX.toList = acC acM := rfl
theorem rlX_eq : rlX.toList = rlC rlM := rfl
/-- A ledger with room behind its lists, in memory. -/
structure Roomy (w : World) (ga ac gr rc : Nat) (l : List Ac) (r : List Rl) : Prop where
  acs : AsAt w (some ⟨ga, 0, none⟩) ac (l ++ acM)
  rls : RsAt w (some ⟨gr, 0, none⟩) rc (r ++ rlM)
set_option maxRecDepth 100000 in
set_option maxHeartbeats 4000000 in
theorem roomy10 (w : World) (va vr : Value) (l : List Ac) (r : List Rl) (ha : As w va l) (hr : Rs w vr r) (hla : l.length * 40 ≤ 140737488351232) (hlr : r.length * 32 ≤ 140737488351232) (b s : Int) : Calls Tryz.prog 5 #[.agg #[va, vr, .int .u64 b, .int .u64 s]] w fun e w' =>
    ∃ ga ac gr rc, e = .returned (.agg #[.slice (some ⟨ga, 0, none⟩) (l.length + 2) ac, .slice (some ⟨gr, 0, none⟩) (r.length + 2) rc, .int .u64 b, .int .u64 s]) ∧ Roomy w' ga ac gr rc l r ∧ Turn no w w' := by
  obtain ⟨a, ac0, rfl, hA⟩ := ha
  obtain ⟨p, pc0, rfl, hP⟩ := hr
  obtain ⟨w0, hw0⟩ : ∃ w0, ((w.alloc (.cells #[.slice a l.length ac0, .slice p r.length pc0, .int .u64 b, .int .u64 s] 26)).alloc (.cells #[.slice none 0 0, .slice none 0 0, .int .u64 0, .int .u64 0] 26)).alloc (.cells #[.slice a l.length ac0, .slice p r.length pc0, .int .u64 b, .int .u64 s] 26) = w0 := ⟨_, rfl⟩
  have T0 : Turn no w w0 := by rw [← hw0]; exact (((Turn.refl no w).alloc _).alloc _).alloc _
  have B0 : Row w0 w.heap.size #[.slice a l.length ac0, .slice p r.length pc0, .int .u64 b, .int .u64 s] 26 := by rw [← hw0]; exact ((Row.new w _ 26).alloc _).alloc _
  have B1 : Row w0 (w.heap.size + 1) #[.slice none 0 0, .slice none 0 0, .int .u64 0, .int .u64 0] 26 := by rw [← hw0]; exact (Row.newAt _ _ _ _ (by simp)).alloc _
  have B2 : Row w0 (w.heap.size + 1 + 1) #[.slice a l.length ac0, .slice p r.length pc0, .int .u64 b, .int .u64 s] 26 := by rw [← hw0]; exact Row.newAt _ _ _ _ (by simp)
  have hsA := As.src (hA.turn_no T0)
  have HOKA := shut hA.ok
  have HOKP := shut hP.ok
  obtain ⟨a1, c1, w1, g2, c2, w2, r1, T1, r2, O2, f2, T2, K2⟩ := room_two Tryz.underlying22 info39 rfl (by decide) w0 _ _ _ hsA acX rfl (acC_one acM) (by omega) (by simp only [maxLen]; omega) (w.heap.size + 1 + 1) 0 B2.lt
  have hz1 : (w1.setCell ⟨w.heap.size + 1 + 1, 0, none⟩ (.slice a1 l.length c1)).heap.size = w1.heap.size := by simp
  rw [hz1] at r2
  have B0' := B0.turn T2 (fun q => by omega)
  have B1' := B1.turn T2 (fun q => by omega)
  have B2a := K2 _ _ B2
  have hs0 : w0.heap.size = w.heap.size + 3 := by rw [← hw0]; simp
  -- behind the accounts
  have T3 : Turn (fun k => k = w.heap.size + 1 + 1) w0 (w2.setCell ⟨w.heap.size + 1 + 1, 0, none⟩ (.slice (some ⟨g2, 0, none⟩) (l.length + 2) c2)) := T2.setCell (p := ⟨w.heap.size + 1 + 1, 0, none⟩) (fun _ => rfl) _
  have TS3 : Turn (fun k => k = w.heap.size + 1 + 1) w2 (w2.setCell ⟨w.heap.size + 1 + 1, 0, none⟩ (.slice (some ⟨g2, 0, none⟩) (l.length + 2) c2)) := (Turn.refl (fun k => k = w.heap.size + 1 + 1) w2).setCell (p := ⟨w.heap.size + 1 + 1, 0, none⟩) (fun _ => rfl) _
  have B3 : Row (w2.setCell ⟨w.heap.size + 1 + 1, 0, none⟩ (.slice (some ⟨g2, 0, none⟩) (l.length + 2) c2)) (w.heap.size + 1 + 1) #[.slice (some ⟨g2, 0, none⟩) (l.length + 2) c2, .slice p r.length pc0, .int .u64 b, .int .u64 s] 26 := B2a.set 0 _
  have A3 : AsAt (w2.setCell ⟨w.heap.size + 1 + 1, 0, none⟩ (.slice (some ⟨g2, 0, none⟩) (l.length + 2) c2)) (some ⟨g2, 0, none⟩) c2 (l ++ acM) := by
    rw [acX_eq, ← acC_append] at O2
    obtain ⟨x, y, e, h⟩ := OwnN.as (l := l ++ acM) (by rw [show (l ++ acM).length = l.length + 2 by simp [acM]]; exact O2) (fun m hm => (List.mem_append.1 hm).elim (HOKA.out m) (acM_ok m))
    injection e with e1 e2 e3
    subst e1
    subst e3
    exact h.turn TS3 (fun x q z => by cases q; have z' : g2 = w.heap.size + 1 + 1 := z; omega)
  have x0 := B0.cell 0 _ rfl
  have y0 := (B2.turn T1 (fun q => q)).cell 0 _ rfl
  have y1 := (B2.turn T1 (fun q => q)).frozen 0
  have z0 := ((B2.turn T1 (fun q => q)).set 0 (.slice a1 l.length c1)).cell 0 _ rfl
  have u0 := B2a.cell 0 _ rfl
  have u1 := B2a.frozen 0
  have TW3 : Turn no w (w2.setCell ⟨w.heap.size + 1 + 1, 0, none⟩ (.slice (some ⟨g2, 0, none⟩) (l.length + 2) c2)) := T0.trans T3 (fun i hi q => by omega)
  have B0w := B0.turn T3 (fun q => by omega)
  have B1w := B1.turn T3 (fun q => by omega)
  obtain ⟨w3, hw3⟩ : ∃ w3, w2.setCell ⟨w.heap.size + 1 + 1, 0, none⟩ (.slice (some ⟨g2, 0, none⟩) (l.length + 2) c2) = w3 := ⟨_, rfl⟩
  rw [hw3] at T3 TS3 B3 A3 TW3 B0w B1w
  have hsP := Rs.src (hP.turn_no TW3)
  obtain ⟨a4, c4, w4, g5, c5, w5, r4, T4, r5, O5, f5, T5, K5⟩ := room_two Tryz.underlying23 info58 rfl (by decide) w3 _ _ _ hsP rlX rfl (rlC_one rlM) (by omega) (by simp only [maxLen]; omega) (w.heap.size + 1 + 1) 1 B3.lt
  have hz4 : (w4.setCell ⟨w.heap.size + 1 + 1, 1, none⟩ (.slice a4 r.length c4)).heap.size = w4.heap.size := by simp
  rw [hz4] at r5
  have hg5 : ¬ g5 = w.heap.size + 1 + 1 := by have := B3.lt; omega
  have hg2 : ¬ g2 = w.heap.size + 1 + 1 := by have := B2.lt; omega
  have HG : Shut (¬ g2 = w.heap.size + 1 ∧ ¬ g5 = w.heap.size + 1) := by
    have h1 := B3.lt
    have h2 := B2.lt
    refine ⟨?_, ?_⟩ <;> omega
  have B5a := K5 _ _ B3
  have TS6 : Turn (fun k => k = w.heap.size + 1 + 1) w5 (w5.setCell ⟨w.heap.size + 1 + 1, 1, none⟩ (.slice (some ⟨g5, 0, none⟩) (r.length + 2) c5)) := (Turn.refl (fun k => k = w.heap.size + 1 + 1) w5).setCell (p := ⟨w.heap.size + 1 + 1, 1, none⟩) (fun _ => rfl) _
  have T6 : Turn (fun k => k = w.heap.size + 1 + 1) w3 (w5.setCell ⟨w.heap.size + 1 + 1, 1, none⟩ (.slice (some ⟨g5, 0, none⟩) (r.length + 2) c5)) := T5.trans TS6 (fun _ _ q => q)
  have B6 : Row (w5.setCell ⟨w.heap.size + 1 + 1, 1, none⟩ (.slice (some ⟨g5, 0, none⟩) (r.length + 2) c5)) (w.heap.size + 1 + 1) #[.slice (some ⟨g2, 0, none⟩) (l.length + 2) c2, .slice (some ⟨g5, 0, none⟩) (r.length + 2) c5, .int .u64 b, .int .u64 s] 26 := B5a.set 1 _
  have A6 : AsAt (w5.setCell ⟨w.heap.size + 1 + 1, 1, none⟩ (.slice (some ⟨g5, 0, none⟩) (r.length + 2) c5)) (some ⟨g2, 0, none⟩) c2 (l ++ acM) := A3.turn T6 (fun x q z => by cases q; exact hg2 z)
  have P6 : RsAt (w5.setCell ⟨w.heap.size + 1 + 1, 1, none⟩ (.slice (some ⟨g5, 0, none⟩) (r.length + 2) c5)) (some ⟨g5, 0, none⟩) c5 (r ++ rlM) := by
    rw [rlX_eq, ← rlC_append] at O5
    have O6 := O5.turn TS6 (fun g hg z => by cases hg; exact hg5 z)
    obtain ⟨x, y, e, h⟩ := OwnN.rs (l := r ++ rlM) (by rw [show (r ++ rlM).length = r.length + 2 by simp [rlM]]; exact O6) (fun m hm => (List.mem_append.1 hm).elim (HOKP.out m) (rlM_ok m))
    injection e with e1 e2 e3
    subst e1
    subst e3
    exact h
  have TW6 := TW3.trans T6 (fun i hi q => by omega)
  have B1z := B1w.turn T6 (fun q => by omega)
  have x1 := B0w.cell 1 _ rfl
  have v0 := (B3.turn T4 (fun q => q)).cell 1 _ rfl
  have v1 := (B3.turn T4 (fun q => q)).frozen 1
  have v2 := ((B3.turn T4 (fun q => q)).set 1 (.slice a4 r.length c4)).cell 1 _ rfl
  have v3 := B5a.cell 1 _ rfl
  have v4 := B5a.frozen 1
  have HAP := shut (And.intro A6 P6)
  have HTW := shut TW6
  have HB6 := shut B6
  have HB1 := shut B1z
  clear A6 P6 TW6 B1z B6 T6 TS6 B5a hg5 hg2 hz4 K5 T5 f5 O5 T4 hsP TS3 T3 TW3 B0w B1w A3 B3 hs0 B2a B0' B1' hz1 K2 T2 f2 O2 T1 hsA B2 B1 B0 T0 hA hP HOKA HOKP hla hlr
  generalize l.length = n at *
  generalize r.length = k at *
  go_enter Tryz.func5, Tryz.ntmps5
  go_upto_region 2 with fail
  try rw [hw0]
  clear hw0
  go_upto_region 3 with (at_builtin; refine wpList_append_run rfl _ _ rfl _ _ rfl rfl r1 ?_; clear r1)
  go_upto_region 4 with (at_builtin; refine wpList_append_run rfl (.tmp 10) (.tmp 13) rfl _ _ rfl rfl r2 ?_; clear r2)
  try rw [hw3]
  clear x0 y0 y1 z0 u0 u1 hw3
  go_upto_region 5 with (at_builtin; refine wpList_append_run rfl _ _ rfl _ _ rfl rfl r4 ?_; clear r4)
  go_upto_region 6 with (at_builtin; refine wpList_append_run rfl (.tmp 21) (.tmp 24) rfl _ _ rfl rfl r5 ?_; clear r5)
  have hb6 := HB6.out
  have hb1 := HB1.out
  have e0 := hb6.cell 0 _ rfl
  have e1 := hb6.cell 1 _ rfl
  have e2 := hb6.cell 2 _ rfl
  have e3 := hb6.cell 3 _ rfl
  have hi4 : (Tryz.prog.info? 26).map (·.size) = some (#[Value.slice (some ⟨g2, 0, none⟩) (n + 2) c2, .slice (some ⟨g5, 0, none⟩) (k + 2) c5, .int .u64 b, .int .u64 s]).size := by kernel_rfl
  have ho4 : (#[Value.slice (some ⟨g2, 0, none⟩) (n + 2) c2, .slice (some ⟨g5, 0, none⟩) (k + 2) c5, .int .u64 b, .int .u64 s]).all (·.oneCell') = true := by simp [Value.oneCell']
  clear v0 v1 v2 v3 v4 x1 hb6
  go_wp2_with (refine wpList_store_anyN rfl rfl 26 (.tmp 2) (.tmp 27) rfl (w.heap.size + 1) #[.slice (some ⟨g2, 0, none⟩) (n + 2) c2, .slice (some ⟨g5, 0, none⟩) (k + 2) c5, .int .u64 b, .int .u64 s] rfl rfl 26 _ hb1 hi4 rfl ho4 ?_; intro w9 R9 T9)
  refine ⟨rfl, _, results_cell_row (g := w.heap.size + 1) (cs := #[.slice (some ⟨g2, 0, none⟩) (n + 2) c2, .slice (some ⟨g5, 0, none⟩) (k + 2) c5, .int .u64 b, .int .u64 s]) (t := 26) rfl _ _ _ _ rfl R9 Tryz.underlying26 rfl (by kernel_rfl), g2, c2, g5, c5, rfl, ⟨HAP.out.1.turn T9 (fun x q z => ?_), HAP.out.2.turn T9 (fun x q z => ?_)⟩, HTW.out.trans T9 (fun i hi q => by omega)⟩
  · cases q
    exact HG.out.1 z
  · cases q
    exact HG.out.2 z
end Go.Proofs.YtmihgjdodgmipaaGreatDoor


/- kept. -/
namespace Go.Proofs.YtmihgjdodgmipaaGreatDoor
open Go.RowKit
set_option linter.unusedVariables false

theorem As.of_at {w : World} {a : Option Addr} {cap : Nat} {l r : List Ac} (h : AsAt w a cap (l ++ r)) : As w (.slice a l.length cap) l :=
  ⟨a, cap, rfl, by have := h.le; rw [List.length_append] at this; omega, h.cap, fun m hm => h.ok m (by simp [hm]), fun j m hj => h.cells j m (by rw [List.getElem?_append_left (List.getElem?_eq_some_iff.1 hj).1]; exact hj)⟩
theorem Rs.of_at {w : World} {a : Option Addr} {cap : Nat} {l r : List Rl} (h : RsAt w a cap (l ++ r)) : Rs w (.slice a l.length cap) l :=
  ⟨a, cap, rfl, by have := h.le; rw [List.length_append] at this; omega, h.cap, fun m hm => h.ok m (by simp [hm]), fun j m hj => h.cells j m (by rw [List.getElem?_append_left (List.getElem?_eq_some_iff.1 hj).1]; exact hj)⟩
theorem Roomy.turn_no {w w' : World} {ga ac gr rc : Nat} {l : List Ac} {r : List Rl} (h : Roomy w ga ac gr rc l r) (t : Turn no w w') : Roomy w' ga ac gr rc l r := ⟨h.acs.turn_no t, h.rls.turn_no t⟩
theorem Roomy.room {w : World} {ga ac gr rc : Nat} {l : List Ac} {r : List Rl} (h : Roomy w ga ac gr rc l r) : l.length + 2 ≤ ac ∧ ac ≤ maxLen ∧ r.length + 2 ≤ rc ∧ rc ≤ maxLen := by
  have h1 := h.acs.le
  have h2 := h.rls.le
  rw [List.length_append] at h1 h2
  exact ⟨h1, h.acs.cap, h2, h.rls.cap⟩
theorem Roomy.marks {w : World} {ga ac gr rc : Nat} {l : List Ac} {r : List Rl} (h : Roomy w ga ac gr rc l r) : w.cell? ⟨ga, l.length * 5, none⟩ = some (.int .u64 777) ∧ w.cell? ⟨ga, (l.length + 1) * 5, none⟩ = some (.int .u64 778) ∧ w.cell? ⟨gr, r.length * 4 + 1, none⟩ = some (.int .u64 777) ∧ w.cell? ⟨gr, (r.length + 1) * 4 + 1, none⟩ = some (.int .u64 778) := by
  obtain ⟨b0, o0, e0, c0, _⟩ := h.acs.cells l.length ⟨777, 0, 0, 0, false⟩ (by rw [List.getElem?_append_right (by omega)]; simp [acM])
  obtain ⟨b1, o1, e1, c1, _⟩ := h.acs.cells (l.length + 1) ⟨778, 0, 0, 0, false⟩ (by rw [List.getElem?_append_right (by omega)]; simp [acM])
  obtain ⟨b2, o2, e2, _, c2, _⟩ := h.rls.cells r.length ⟨0, 777, 0, 0⟩ (by rw [List.getElem?_append_right (by omega)]; simp [rlM])
  obtain ⟨b3, o3, e3, _, c3, _⟩ := h.rls.cells (r.length + 1) ⟨0, 778, 0, 0⟩ (by rw [List.getElem?_append_right (by omega)]; simp [rlM])
  cases e0
  cases e1
  cases e2
  cases e3
  rw [Nat.zero_add] at c0 c1 c2 c3
  exact ⟨c0, c1, c2, c3⟩
set_option maxRecDepth 100000 in
set_option maxHeartbeats 8000000 in
theorem kept17 (w : World) (ga ac gr rc : Nat) (ua ur : Value) (l : List Ac) (r : List Rl) (hR : Roomy w ga ac gr rc l r) (ha : As w ua l) (hr : Rs w ur r) (b s : Int) : Calls Tryz.prog 12 #[.agg #[.slice (some ⟨ga, 0, none⟩) (l.length + 2) ac, .slice (some ⟨gr, 0, none⟩) (r.length + 2) rc, .int .u64 b, .int .u64 s], .agg #[ua, ur, .int .u64 b, .int .u64 s]] w fun e w' => e = .returned (.bool true) ∧ Turn no w w' := by
  have HA := shut ha
  have HP := shut hr
  obtain ⟨a, ac', rfl, hA⟩ := ha
  obtain ⟨p, pc', rfl, hP⟩ := hr
  obtain ⟨r1, r2, r3, r4⟩ := hR.room
  have HR := shut hR
  obtain ⟨w0, hw0⟩ : ∃ w0, (w.alloc (.cells #[.slice (some ⟨ga, 0, none⟩) (l.length + 2) ac, .slice (some ⟨gr, 0, none⟩) (r.length + 2) rc, .int .u64 b, .int .u64 s] 26)).alloc (.cells #[.slice a l.length ac', .slice p r.length pc', .int .u64 b, .int .u64 s] 26) = w0 := ⟨_, rfl⟩
  have T0 : Turn no w w0 := by rw [← hw0]; exact ((Turn.refl no w).alloc _).alloc _
  have B0 : Row w0 w.heap.size #[.slice (some ⟨ga, 0, none⟩) (l.length + 2) ac, .slice (some ⟨gr, 0, none⟩) (r.length + 2) rc, .int .u64 b, .int .u64 s] 26 := by rw [← hw0]; exact (Row.new w _ 26).alloc _
  have B1 : Row w0 (w.heap.size + 1) #[.slice a l.length ac', .slice p r.length pc', .int .u64 b, .int .u64 s] 26 := by rw [← hw0]; exact Row.newAt _ _ _ _ (by simp)
  have HX : Shut (∀ W, Turn no w0 W → (W.cell? ⟨w.heap.size, 0, none⟩ = some (.slice (some ⟨ga, 0, none⟩) (l.length + 2) ac) ∧ W.cell? ⟨w.heap.size, 1, none⟩ = some (.slice (some ⟨gr, 0, none⟩) (r.length + 2) rc) ∧ W.cell? ⟨w.heap.size, 2, none⟩ = some (.int .u64 b) ∧ W.cell? ⟨w.heap.size, 3, none⟩ = some (.int .u64 s)) ∧
      (W.cell? ⟨w.heap.size + 1, 0, none⟩ = some (.slice a l.length ac') ∧ W.cell? ⟨w.heap.size + 1, 1, none⟩ = some (.slice p r.length pc') ∧ W.cell? ⟨w.heap.size + 1, 2, none⟩ = some (.int .u64 b) ∧ W.cell? ⟨w.heap.size + 1, 3, none⟩ = some (.int .u64 s)) ∧
      (W.cell? ⟨ga, l.length * 5, none⟩ = some (.int .u64 777) ∧ W.cell? ⟨ga, (l.length + 1) * 5, none⟩ = some (.int .u64 778) ∧ W.cell? ⟨gr, r.length * 4 + 1, none⟩ = some (.int .u64 777) ∧ W.cell? ⟨gr, (r.length + 1) * 4 + 1, none⟩ = some (.int .u64 778)) ∧ Turn no w W) := fun W t =>
    ⟨⟨t.keep (B0.cell 0 _ rfl) (fun q => q), t.keep (B0.cell 1 _ rfl) (fun q => q), t.keep (B0.cell 2 _ rfl) (fun q => q), t.keep (B0.cell 3 _ rfl) (fun q => q)⟩,
     ⟨t.keep (B1.cell 0 _ rfl) (fun q => q), t.keep (B1.cell 1 _ rfl) (fun q => q), t.keep (B1.cell 2 _ rfl) (fun q => q), t.keep (B1.cell 3 _ rfl) (fun q => q)⟩, (HR.out.turn_no (T0.then_no t)).marks, T0.then_no t⟩
  have HC : Shut (∀ W, Turn no w0 W → Calls Tryz.prog 7 #[.agg #[.slice (some ⟨ga, 0, none⟩) (l.length + 2) ac, .slice (some ⟨gr, 0, none⟩) (r.length + 2) rc, .int .u64 b, .int .u64 s]] W fun e w' => e = .returned (.agg #[.slice (some ⟨ga, 0, none⟩) l.length ac, .slice (some ⟨gr, 0, none⟩) r.length rc, .int .u64 b, .int .u64 s]) ∧ Turn no W w') := fun W t => cut12 W _ _ _ _ _ _ r1 r2 r3 r4 b s
  have HS : Shut (∀ W, Turn no w0 W → Calls Tryz.prog 34 #[.agg #[.slice (some ⟨ga, 0, none⟩) l.length ac, .slice (some ⟨gr, 0, none⟩) r.length rc, .int .u64 b, .int .u64 s], .agg #[.slice a l.length ac', .slice p r.length pc', .int .u64 b, .int .u64 s]] W fun e w' => e = .returned (.bool true) ∧ Turn no W w') := fun W t =>
    same16 W _ _ _ _ l r (As.of_at (HR.out.acs.turn_no (T0.then_no t))) (Rs.of_at (HR.out.rls.turn_no (T0.then_no t))) (HA.out.turn_no (T0.then_no t)) (HP.out.turn_no (T0.then_no t)) b s
  simp only [maxLen] at r2 r4
  obtain ⟨_, ⟨y0, y1, _, _⟩, _⟩ := HX.out w0 (Turn.refl no w0)
  clear hA hP hR T0 B0 B1 HA HP HR
  generalize l.length = n at *
  generalize r.length = k at *
  go_enter Tryz.func12, Tryz.ntmps12
  go_upto_region 1 with fail
  try rw [hw0]
  go_upto_region 3 with fail
  clear y0 y1 hw0
  refine wp_region_held_drew (S := fun W => Turn no w0 W) (by kernel_rfl) (Turn.refl no w0).drew (fun hHeld => ?_)
  refine' wpAnyH_take (i := 0) (v := .agg #[.slice (some ⟨ga, 0, none⟩) (n + 2) ac, .slice (some ⟨gr, 0, none⟩) (k + 2) rc, .int .u64 b, .int .u64 s]) rfl (by kernel_rfl) (by kernel_rfl) (by kernel_rfl) (fun _ _ _ h => h) (Or.inl ⟨by kernel_rfl, fun W hW => ?y1⟩) hHeld ?r1
  · obtain ⟨⟨q0, q1, q2, q3⟩, ⟨u0, u1, u2, u3⟩, ⟨v0, v1, v2, v3⟩, _⟩ := HX.out W hW
    go_simp
  refine' wpAnyH_take (i := 2) (v := .agg #[.slice a n ac', .slice p k pc', .int .u64 b, .int .u64 s]) rfl (by kernel_rfl) (by kernel_rfl) (by kernel_rfl) (fun _ _ _ h => h) (Or.inl ⟨by kernel_rfl, fun W hW => ?y2⟩) hHeld ?r2
  · obtain ⟨⟨q0, q1, q2, q3⟩, ⟨u0, u1, u2, u3⟩, ⟨v0, v1, v2, v3⟩, _⟩ := HX.out W hW
    go_simp
  refine wpAnyH_ready (rs := [1]) (by kernel_rfl) (by simp) ?_
  refine AllReadyH.cons rfl (fun K hK => ?_) AllReadyH.nil
  go_simp
  refine (HC.out _ hHeld).mono ?_
  rintro e w1c ⟨rfl, t1c⟩
  refine hK.out _ _ (hHeld.then_no t1c) (fun hHeld => ?_)
  clear hK
  refine wpAnyH_ready (rs := [3]) (by kernel_rfl) (by simp) ?_
  refine AllReadyH.cons rfl (fun K hK => ?_) AllReadyH.nil
  go_simp
  refine (HS.out _ hHeld).mono ?_
  rintro e w3c ⟨rfl, t3c⟩
  refine hK.out _ _ (hHeld.then_no t3c) (fun hHeld => ?_)
  clear hK
  refine' wpAnyH_take (i := 4) (v := .bool true) rfl (by kernel_rfl) (by kernel_rfl) (by kernel_rfl) (fun _ _ _ h => h) (Or.inl ⟨by kernel_rfl, fun W hW => ?y3⟩) hHeld ?r3
  · go_simp
  refine' wpAnyH_take (i := 5) (v := .pointer (some ⟨w.heap.size, 0, none⟩)) rfl (by kernel_rfl) (by kernel_rfl) (by kernel_rfl) (fun _ _ _ h => h) (Or.inl ⟨by kernel_rfl, fun W hW => ?y4⟩) hHeld ?r4
  · go_simp
  refine' wpAnyH_take (i := 6) (v := .slice (some ⟨ga, 0, none⟩) (n + 2) ac) rfl (by kernel_rfl) (by kernel_rfl) (by kernel_rfl) (fun _ _ _ h => h) (Or.inl ⟨by kernel_rfl, fun W hW => ?y5⟩) hHeld ?r5
  · obtain ⟨⟨q0, q1, q2, q3⟩, ⟨u0, u1, u2, u3⟩, ⟨v0, v1, v2, v3⟩, _⟩ := HX.out W hW
    go_simp
  refine' wpAnyH_take (i := 7) (v := .int .i64 n) rfl (by kernel_rfl) (by kernel_rfl) (by kernel_rfl) (fun _ _ _ h => h) (Or.inl ⟨by kernel_rfl, fun W hW => ?y6⟩) hHeld ?r6
  · go_simp
  refine' wpAnyH_take (i := 8) (v := .pointer (some ⟨ga, n * 5, none⟩)) rfl (by kernel_rfl) (by kernel_rfl) (by kernel_rfl) (fun _ _ _ h => h) (Or.inl ⟨by kernel_rfl, fun W hW => ?y7⟩) hHeld ?r7
  · go_simp
    omega
  refine' wpAnyH_take (i := 9) (v := .pointer (some ⟨ga, n * 5, none⟩)) rfl (by kernel_rfl) (by kernel_rfl) (by kernel_rfl) (fun _ _ _ h => h) (Or.inl ⟨by kernel_rfl, fun W hW => ?y8⟩) hHeld ?r8
  · go_simp
  refine' wpAnyH_take (i := 10) (v := .int .u64 777) rfl (by kernel_rfl) (by kernel_rfl) (by kernel_rfl) (fun _ _ _ h => h) (Or.inl ⟨by kernel_rfl, fun W hW => ?y9⟩) hHeld ?r9
  · obtain ⟨⟨q0, q1, q2, q3⟩, ⟨u0, u1, u2, u3⟩, ⟨v0, v1, v2, v3⟩, _⟩ := HX.out W hW
    go_simp
  refine' wpAnyH_take (i := 11) (v := .bool true) rfl (by kernel_rfl) (by kernel_rfl) (by kernel_rfl) (fun _ _ _ h => h) (Or.inl ⟨by kernel_rfl, fun W hW => ?y10⟩) hHeld ?r10
  · go_simp
  refine' wpAnyH_take (i := 12) (v := .bool true) rfl (by kernel_rfl) (by kernel_rfl) (by kernel_rfl) (fun _ _ _ h => h) (Or.inl ⟨by kernel_rfl, fun W hW => ?y11⟩) hHeld ?r11
  · go_simp
  refine' wpAnyH_take (i := 13) (v := .bool true) rfl (by kernel_rfl) (by kernel_rfl) (by kernel_rfl) (fun _ _ _ h => h) (Or.inl ⟨by kernel_rfl, fun W hW => ?y12⟩) hHeld ?r12
  · go_simp
  refine' wpAnyH_take (i := 14) (v := .pointer (some ⟨w.heap.size, 0, none⟩)) rfl (by kernel_rfl) (by kernel_rfl) (by kernel_rfl) (fun _ _ _ h => h) (Or.inl ⟨by kernel_rfl, fun W hW => ?y13⟩) hHeld ?r13
  · go_simp
  refine' wpAnyH_take (i := 15) (v := .slice (some ⟨ga, 0, none⟩) (n + 2) ac) rfl (by kernel_rfl) (by kernel_rfl) (by kernel_rfl) (fun _ _ _ h => h) (Or.inl ⟨by kernel_rfl, fun W hW => ?y14⟩) hHeld ?r14
  · obtain ⟨⟨q0, q1, q2, q3⟩, ⟨u0, u1, u2, u3⟩, ⟨v0, v1, v2, v3⟩, _⟩ := HX.out W hW
    go_simp
  refine' wpAnyH_take (i := 16) (v := .int .i64 n) rfl (by kernel_rfl) (by kernel_rfl) (by kernel_rfl) (fun _ _ _ h => h) (Or.inl ⟨by kernel_rfl, fun W hW => ?y15⟩) hHeld ?r15
  · go_simp
  refine' wpAnyH_take (i := 17) (v := .int .i64 (n + 1)) rfl (by kernel_rfl) (by kernel_rfl) (by kernel_rfl) (fun _ _ _ h => h) (Or.inl ⟨by kernel_rfl, fun W hW => ?y16⟩) hHeld ?r16
  · go_simp
    rw [IntKind.wrap_i64]
    omega
  refine' wpAnyH_take (i := 18) (v := .pointer (some ⟨ga, (n + 1) * 5, none⟩)) rfl (by kernel_rfl) (by kernel_rfl) (by kernel_rfl) (fun _ _ _ h => h) (Or.inl ⟨by kernel_rfl, fun W hW => ?y17⟩) hHeld ?r17
  · go_simp
    omega
  refine' wpAnyH_take (i := 19) (v := .pointer (some ⟨ga, (n + 1) * 5, none⟩)) rfl (by kernel_rfl) (by kernel_rfl) (by kernel_rfl) (fun _ _ _ h => h) (Or.inl ⟨by kernel_rfl, fun W hW => ?y18⟩) hHeld ?r18
  · go_simp
  refine' wpAnyH_take (i := 20) (v := .int .u64 778) rfl (by kernel_rfl) (by kernel_rfl) (by kernel_rfl) (fun _ _ _ h => h) (Or.inl ⟨by kernel_rfl, fun W hW => ?y19⟩) hHeld ?r19
  · obtain ⟨⟨q0, q1, q2, q3⟩, ⟨u0, u1, u2, u3⟩, ⟨v0, v1, v2, v3⟩, _⟩ := HX.out W hW
    go_simp
  refine' wpAnyH_take (i := 21) (v := .bool true) rfl (by kernel_rfl) (by kernel_rfl) (by kernel_rfl) (fun _ _ _ h => h) (Or.inl ⟨by kernel_rfl, fun W hW => ?y20⟩) hHeld ?r20
  · go_simp
  refine' wpAnyH_take (i := 22) (v := .bool true) rfl (by kernel_rfl) (by kernel_rfl) (by kernel_rfl) (fun _ _ _ h => h) (Or.inl ⟨by kernel_rfl, fun W hW => ?y21⟩) hHeld ?r21
  · go_simp
  refine' wpAnyH_take (i := 23) (v := .bool true) rfl (by kernel_rfl) (by kernel_rfl) (by kernel_rfl) (fun _ _ _ h => h) (Or.inl ⟨by kernel_rfl, fun W hW => ?y22⟩) hHeld ?r22
  · go_simp
  refine' wpAnyH_take (i := 24) (v := .pointer (some ⟨w.heap.size, 1, none⟩)) rfl (by kernel_rfl) (by kernel_rfl) (by kernel_rfl) (fun _ _ _ h => h) (Or.inl ⟨by kernel_rfl, fun W hW => ?y23⟩) hHeld ?r23
  · go_simp
  refine' wpAnyH_take (i := 25) (v := .slice (some ⟨gr, 0, none⟩) (k + 2) rc) rfl (by kernel_rfl) (by kernel_rfl) (by kernel_rfl) (fun _ _ _ h => h) (Or.inl ⟨by kernel_rfl, fun W hW => ?y24⟩) hHeld ?r24
  · obtain ⟨⟨q0, q1, q2, q3⟩, ⟨u0, u1, u2, u3⟩, ⟨v0, v1, v2, v3⟩, _⟩ := HX.out W hW
    go_simp
  refine' wpAnyH_take (i := 26) (v := .int .i64 k) rfl (by kernel_rfl) (by kernel_rfl) (by kernel_rfl) (fun _ _ _ h => h) (Or.inl ⟨by kernel_rfl, fun W hW => ?y25⟩) hHeld ?r25
  · go_simp
  refine' wpAnyH_take (i := 27) (v := .pointer (some ⟨gr, k * 4, none⟩)) rfl (by kernel_rfl) (by kernel_rfl) (by kernel_rfl) (fun _ _ _ h => h) (Or.inl ⟨by kernel_rfl, fun W hW => ?y26⟩) hHeld ?r26
  · go_simp
    omega
  refine' wpAnyH_take (i := 28) (v := .pointer (some ⟨gr, k * 4 + 1, none⟩)) rfl (by kernel_rfl) (by kernel_rfl) (by kernel_rfl) (fun _ _ _ h => h) (Or.inl ⟨by kernel_rfl, fun W hW => ?y27⟩) hHeld ?r27
  · go_simp
  refine' wpAnyH_take (i := 29) (v := .int .u64 777) rfl (by kernel_rfl) (by kernel_rfl) (by kernel_rfl) (fun _ _ _ h => h) (Or.inl ⟨by kernel_rfl, fun W hW => ?y28⟩) hHeld ?r28
  · obtain ⟨⟨q0, q1, q2, q3⟩, ⟨u0, u1, u2, u3⟩, ⟨v0, v1, v2, v3⟩, _⟩ := HX.out W hW
    go_simp
  refine' wpAnyH_take (i := 30) (v := .bool true) rfl (by kernel_rfl) (by kernel_rfl) (by kernel_rfl) (fun _ _ _ h => h) (Or.inl ⟨by kernel_rfl, fun W hW => ?y29⟩) hHeld ?r29
  · go_simp
  refine' wpAnyH_take (i := 31) (v := .bool true) rfl (by kernel_rfl) (by kernel_rfl) (by kernel_rfl) (fun _ _ _ h => h) (Or.inl ⟨by kernel_rfl, fun W hW => ?y30⟩) hHeld ?r30
  · go_simp
  refine' wpAnyH_take (i := 32) (v := .bool true) rfl (by kernel_rfl) (by kernel_rfl) (by kernel_rfl) (fun _ _ _ h => h) (Or.inl ⟨by kernel_rfl, fun W hW => ?y31⟩) hHeld ?r31
  · go_simp
  refine' wpAnyH_take (i := 33) (v := .pointer (some ⟨w.heap.size, 1, none⟩)) rfl (by kernel_rfl) (by kernel_rfl) (by kernel_rfl) (fun _ _ _ h => h) (Or.inl ⟨by kernel_rfl, fun W hW => ?y32⟩) hHeld ?r32
  · go_simp
  refine' wpAnyH_take (i := 34) (v := .slice (some ⟨gr, 0, none⟩) (k + 2) rc) rfl (by kernel_rfl) (by kernel_rfl) (by kernel_rfl) (fun _ _ _ h => h) (Or.inl ⟨by kernel_rfl, fun W hW => ?y33⟩) hHeld ?r33
  · obtain ⟨⟨q0, q1, q2, q3⟩, ⟨u0, u1, u2, u3⟩, ⟨v0, v1, v2, v3⟩, _⟩ := HX.out W hW
    go_simp
  refine' wpAnyH_take (i := 35) (v := .int .i64 k) rfl (by kernel_rfl) (by kernel_rfl) (by kernel_rfl) (fun _ _ _ h => h) (Or.inl ⟨by kernel_rfl, fun W hW => ?y34⟩) hHeld ?r34
  · go_simp
  refine' wpAnyH_take (i := 36) (v := .int .i64 (k + 1)) rfl (by kernel_rfl) (by kernel_rfl) (by kernel_rfl) (fun _ _ _ h => h) (Or.inl ⟨by kernel_rfl, fun W hW => ?y35⟩) hHeld ?r35
  · go_simp
    rw [IntKind.wrap_i64]
    omega
  refine' wpAnyH_take (i := 37) (v := .pointer (some ⟨gr, (k + 1) * 4, none⟩)) rfl (by kernel_rfl) (by kernel_rfl) (by kernel_rfl) (fun _ _ _ h => h) (Or.inl ⟨by kernel_rfl, fun W hW => ?y36⟩) hHeld ?r36
  · go_simp
    omega
  refine' wpAnyH_take (i := 38) (v := .pointer (some ⟨gr, (k + 1) * 4 + 1, none⟩)) rfl (by kernel_rfl) (by kernel_rfl) (by kernel_rfl) (fun _ _ _ h => h) (Or.inl ⟨by kernel_rfl, fun W hW => ?y37⟩) hHeld ?r37
  · go_simp
  refine' wpAnyH_take (i := 39) (v := .int .u64 778) rfl (by kernel_rfl) (by kernel_rfl) (by kernel_rfl) (fun _ _ _ h => h) (Or.inl ⟨by kernel_rfl, fun W hW => ?y38⟩) hHeld ?r38
  · obtain ⟨⟨q0, q1, q2, q3⟩, ⟨u0, u1, u2, u3⟩, ⟨v0, v1, v2, v3⟩, _⟩ := HX.out W hW
    go_simp
  refine' wpAnyH_take (i := 40) (v := .bool true) rfl (by kernel_rfl) (by kernel_rfl) (by kernel_rfl) (fun _ _ _ h => h) (Or.inl ⟨by kernel_rfl, fun W hW => ?y39⟩) hHeld ?r39
  · go_simp
  refine' wpAnyH_take (i := 41) (v := .bool true) rfl (by kernel_rfl) (by kernel_rfl) (by kernel_rfl) (fun _ _ _ h => h) (Or.inl ⟨by kernel_rfl, fun W hW => ?y40⟩) hHeld ?r40
  · go_simp
  refine' wpAnyH_take (i := 42) (v := .bool true) rfl (by kernel_rfl) (by kernel_rfl) (by kernel_rfl) (fun _ _ _ h => h) (Or.inl ⟨by kernel_rfl, fun W hW => ?y41⟩) hHeld ?r41
  · go_simp
  refine wpAnyH_done (by kernel_rfl) ?_ _
  go_simp
  have HN := shut hHeld
  clear hHeld
  go_wp2_with fail
  go_ret
  exact ⟨rfl, (HX.out _ HN.out).2.2.2⟩
end Go.Proofs.YtmihgjdodgmipaaGreatDoor

