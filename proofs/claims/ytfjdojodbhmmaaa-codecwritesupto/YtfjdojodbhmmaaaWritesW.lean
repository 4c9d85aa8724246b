/- The walk of CodecWrites. -/
import Derived.Test.YtfjdojodbhmmaaaX8
import Derived.Deep.MidRow
import Derived.Deep.CutRange
namespace Go.Proofs.Ytfjdojodbhmmaaa
open Go.RowKit
set_option linter.unusedVariables false

/-- What 'holds' answers. -/
def Holds : Prop := ∀ (w : World) (p : Nat) (k : Kv) (Es : List En), Kb w p k Es → Es.length ≤ 1000 → (∀ x ∈ Es, x.W.length ≤ 140737488355328) → Calls Try.prog 25 #[.pointer (some ⟨p, 0, none⟩)] w fun e w' => e = .returned (.bool true) ∧ Turn no w w'
/-- What holds between the calls: what was laid down is at most i * N long, at most c answers are kept. -/
def Sn (w wr : World) (P : Nat → Nat) (kp N i c : Nat) : Prop := ∃ V k C Es, Fv w.heap.size wr P kp V k C Es ∧ (∀ j, j < 2 → C j = C (2 + j)) ∧ (∀ j, j < 2 → (C j).1.length ≤ i * N) ∧ Es.length ≤ c ∧ (∀ x ∈ Es, x.W.length ≤ i * N) ∧ Turn no w wr
/-- Behind the program's side of a value alone. -/
def Md (w wr : World) (P : Nat → Nat) (kp N i c j : Nat) (x : Pt) : Prop := ∃ V k C Es A e, Fv w.heap.size wr P kp V k C Es ∧ (∀ l, l < 2 → l ≠ j → C l = C (2 + l)) ∧ C j = wput A e x.k x.n x.B ∧ C (2 + j) = (A, e) ∧ A.length ≤ i * N ∧ (∀ l, l < 2 → l ≠ j → (C l).1.length ≤ i * N) ∧ Es.length ≤ c ∧ (∀ x ∈ Es, x.W.length ≤ i * N) ∧ Turn no w wr
section
variable {w wr : World} {P : Nat → Nat} {kp N i c j : Nat} {x : Pt}
theorem keep_no {w w1 w2 : World} (t : Turn no w w1) (t2 : Turn (fun g => w.heap.size ≤ g) w1 w2) : Turn no w w2 :=
  (t.of_no.trans t2 (fun _ _ q => q)).mono (S := fun g => w.heap.size ≤ g) (fun g hg q => by have q : w.heap.size ≤ g := q; omega)
theorem lay_step (h : Sn w wr P kp N i c) (hj : j < 2) (hn : x.n < 18446744073709551616) (hb : Bs w x.vb x.B) (hx : x.B.length + 10 ≤ N) (hN : i * N + N + 100 ≤ 140737488355328) :
    Calls Try.prog 22 #[.pointer (some ⟨P j, 0, none⟩), .agg #[.int .i64 x.k, .int .u64 x.n, x.vb]] wr fun e w' => e = .returned (.bool true) ∧ Md w w' P kp N i c j x := by
  obtain ⟨V, k, C, Es, F, hC, hl, hE, hW, t⟩ := h
  have hlj := hl j hj
  refine (lay_any wr (P j) (V j) (C j).1 (C j).2 x.k x.n hn x.vb x.B (F.wr j hj) (hb.turn_no t) (fun hB g hg q => ?_) (by omega)).mono fun e w' ⟨he, L⟩ => ⟨he, ?_⟩
  · have := hb.old hB g hg
    have := F.new j g (by omega) q
    omega
  · obtain ⟨v1, q1, q2, q3⟩ := L
    obtain ⟨F1, T1⟩ := F.put (i := j) (v' := v1) (c := wput (C j).1 (C j).2 x.k x.n x.B) (by omega) q2 q3 (fun _ => q1) (fun q => by omega)
    refine ⟨_, k, _, Es, (C j).1, (C j).2, F1, fun l hl' hne => ?_, up_same _ _ _, ?_, hlj, fun l hl' hne => ?_, hE, hW, keep_no t T1⟩
    · rw [up_other _ _ _ hne, up_other _ _ _ (by omega)]
      exact hC l hl'
    · rw [up_other _ _ _ (by omega), ← hC j hj]
    · rw [up_other _ _ _ hne]
      exact hl l hl'
theorem paper_step (h : Md w wr P kp N i c j x) (hj : j < 2) (hn : x.n < 18446744073709551616) (hb : Bs w x.vb x.B) (hx : x.B.length + 10 ≤ N) (hN : i * N + N + 100 ≤ 140737488355328) :
    Calls Try.prog 23 #[.pointer (some ⟨P (2 + j), 0, none⟩), .agg #[.int .i64 x.k, .int .u64 x.n, x.vb]] wr fun e w' => e = .returned (.tuple #[]) ∧ Sn w w' P kp N (i + 1) c := by
  obtain ⟨V, k, C, Es, A, e, F, hC, h1, h2, hA, hl, hE, hW, t⟩ := h
  have hr := F.rx j hj
  rw [h2] at hr
  have hNN : (i + 1) * N = i * N + N := by rw [Nat.add_mul, Nat.one_mul]
  refine (paper_any wr (P (2 + j)) (V (2 + j)) A e x.k x.n hn x.vb x.B hr (hb.turn_no t) (by omega)).mono fun r w' ⟨he, R⟩ => ⟨he, ?_⟩
  obtain ⟨v1, q1, q2, q3⟩ := R
  obtain ⟨F1, T1⟩ := F.put (i := 2 + j) (v' := v1) (c := wput A e x.k x.n x.B) (by omega) q2 q3 (fun q => by omega) (fun _ => q1)
  refine ⟨_, k, _, Es, F1, fun l hl' => ?_, fun l hl' => ?_, hE, fun y hy => by have := hW y hy; omega, keep_no t T1⟩
  · by_cases e1 : l = j
    · subst e1
      rw [up_same, up_other _ _ _ (by omega), h1]
    · rw [up_other _ _ _ (by omega), up_other _ _ _ (by omega)]
      exact hC l hl' e1
  · rw [up_other _ _ _ (by omega)]
    by_cases e1 : l = j
    · subst e1
      rw [h1]
      have := wput_len A e x.k x.n x.B
      omega
    · have := hl l hl' e1
      omega
theorem outs_step (h : Sn w wr P kp N i c) (hj : j < 2) (hc : c ≤ 500) (hN : i * N + 100 ≤ 140737488355328) :
    Calls Try.prog 24 #[.pointer (some ⟨P j, 0, none⟩), .pointer (some ⟨P (2 + j), 0, none⟩), .pointer (some ⟨kp, 0, none⟩)] wr fun e w' => e = .returned (.bool true) ∧ Sn w w' P kp N i (c + 1) := by
  obtain ⟨V, k, C, Es, F, hC, hl, hE, hW, t⟩ := h
  have hr := F.rx j hj
  rw [← hC j hj] at hr
  have hlj := hl j hj
  refine (outs24 wr (P j) (P (2 + j)) kp (V j) (V (2 + j)) (C j).1 (C j).2 (F.wr j hj) hr k Es F.kb (by omega) (by omega)).mono fun e w' ⟨he, A⟩ => ⟨he, ?_⟩
  obtain ⟨k', y, F1, h1, T1⟩ := F.asked A
  refine ⟨V, k', C, _, F1, hC, hl, by simp; omega, fun z hz => ?_, keep_no t T1⟩
  rcases List.mem_append.1 hz with hz | hz
  · exact hW z hz
  · simp at hz
    subst hz
    omega
theorem holds_step (hold : Holds) (h : Sn w wr P kp N i c) (hc : c ≤ 500) (hN : i * N + 100 ≤ 140737488355328) : Calls Try.prog 25 #[.pointer (some ⟨kp, 0, none⟩)] wr fun e w' => e = .returned (.bool true) ∧ Turn no w w' := by
  obtain ⟨V, k, C, Es, F, hC, hl, hE, hW, t⟩ := h
  exact (hold wr kp k Es F.kb (by omega) (fun y hy => by have := hW y hy; omega)).mono fun e w' ⟨he, t'⟩ => ⟨he, t.then_no t'⟩
theorem Sn.more {i' c' : Nat} (h : Sn w wr P kp N i c) (hc : c ≤ c') : Sn w wr P kp N i c' := by
  obtain ⟨V, k, C, Es, F, hC, hl, hE, hW, t⟩ := h
  exact ⟨V, k, C, Es, F, hC, hl, by omega, hW, t⟩
end
/-- The four and the book, as they begin. -/
def P4 (p0 p1 q0 q1 : Nat) : Nat → Nat
  | 0 => p0
  | 1 => p1
  | 2 => q0
  | _ => q1
theorem sn_begin (w w1 w2 : World) (N : Nat) (h1 : Wr w1 w.heap.size (.slice none 0 0) [] 0) (t1 : Turn no w w1) (h2 : Wr w2 w1.heap.size (.slice none 0 0) [] 0) (t2 : Turn no w1 w2) :
    Sn w (((w2.alloc (.cells #[.slice none 0 0, .int .i64 0] 54)).alloc (.cells #[.slice none 0 0, .int .i64 0] 54)).alloc (.cells #[.slice none 0 0, .slice none 0 0, .slice none 0 0, .slice none 0 0] 58)) (P4 w.heap.size w1.heap.size w2.heap.size (w2.heap.size + 1)) (w2.heap.size + 1 + 1) N 0 0 := by
  have s1 : w.heap.size < w1.heap.size := h1.lt
  have s2 : w1.heap.size < w2.heap.size := h2.lt
  obtain ⟨a1, e1⟩ : ∃ x, w2.alloc (.cells #[.slice none 0 0, .int .i64 0] 54) = x := ⟨_, rfl⟩
  have z1 : a1.heap.size = w2.heap.size + 1 := by rw [← e1]; simp
  have b1 : a1.heap[w2.heap.size]? = some (.cells #[.slice none 0 0, .int .i64 0] 54 (0, 0)) := by rw [← e1]; exact heap_alloc_new w2 _
  have u1 : Turn no w2 a1 := by rw [← e1]; exact (Turn.refl no w2).alloc _
  rw [e1]
  obtain ⟨a2, e2⟩ : ∃ x, a1.alloc (.cells #[.slice none 0 0, .int .i64 0] 54) = x := ⟨_, rfl⟩
  have z2 : a2.heap.size = w2.heap.size + 1 + 1 := by rw [← e2]; simp [z1]
  have b2 : a2.heap[w2.heap.size + 1]? = some (.cells #[.slice none 0 0, .int .i64 0] 54 (0, 0)) := by rw [← e2, ← z1]; exact heap_alloc_new a1 _
  have u2 : Turn no a1 a2 := by rw [← e2]; exact (Turn.refl no a1).alloc _
  rw [e2]
  obtain ⟨a3, e3⟩ : ∃ x, a2.alloc (.cells #[.slice none 0 0, .slice none 0 0, .slice none 0 0, .slice none 0 0] 58) = x := ⟨_, rfl⟩
  have b3 : a3.heap[w2.heap.size + 1 + 1]? = some (.cells #[.slice none 0 0, .slice none 0 0, .slice none 0 0, .slice none 0 0] 58 (0, 0)) := by rw [← e3, ← z2]; exact heap_alloc_new a2 _
  have u3 : Turn no a2 a3 := by rw [← e3]; exact (Turn.refl no a2).alloc _
  rw [e3]
  have u13 := u2.then_no u3
  have u03 := u1.then_no u13
  have T : Turn no w a3 := (t1.then_no t2).then_no u03
  have P4v : ∀ i, i < 4 → P4 w.heap.size w1.heap.size w2.heap.size (w2.heap.size + 1) i = (if i = 0 then w.heap.size else if i = 1 then w1.heap.size else if i = 2 then w2.heap.size else w2.heap.size + 1) := fun i hi => by
    rcases (show i = 0 ∨ i = 1 ∨ i = 2 ∨ i = 3 by omega) with rfl | rfl | rfl | rfl <;> rfl
  have wf : ∀ i g, i < 4 → wfoot (P4 w.heap.size w1.heap.size w2.heap.size (w2.heap.size + 1) i) (.slice none 0 0) g → g = (if i = 0 then w.heap.size else if i = 1 then w1.heap.size else if i = 2 then w2.heap.size else w2.heap.size + 1) := fun i g hi q => by
    rcases q with q | q
    · rw [q, P4v i hi]
    · cases q
  have kf : ∀ g, kfoot (w2.heap.size + 1 + 1) ⟨.slice none 0 0, .slice none 0 0, .slice none 0 0, .slice none 0 0⟩ g → g = w2.heap.size + 1 + 1 := fun g q => by
    rcases q with q | q | q | q | q
    · exact q
    · cases q
    · cases q
    · cases q
    · cases q
  refine ⟨fun _ => .slice none 0 0, ⟨.slice none 0 0, .slice none 0 0, .slice none 0 0, .slice none 0 0⟩, fun _ => ([], 0), [], ⟨fun i hi => ?_, fun i hi => ?_, ?_, ?_, ?_, ?_, ?_, ?_, T.size⟩, fun _ _ => rfl, fun _ _ => by simp, by simp, fun x hx => by simp at hx, T⟩
  · rcases (show i = 0 ∨ i = 1 by omega) with rfl | rfl
    · exact (h1.turn_no t2).turn_no u03
    · exact h2.turn_no u03
  · rcases (show i = 0 ∨ i = 1 by omega) with rfl | rfl
    · exact ⟨u13.obj b1 (fun q => q), Own.nil _ _⟩
    · exact ⟨u3.obj b2 (fun q => q), Own.nil _ _⟩
  · exact ⟨b3, Own.nil _ _, Own.nil _ _, Own.nil _ _, Own.nil _ _, fun x hx => (by cases hx), fun x hx => (by cases hx), fun x hx => (by cases hx), fun x hx => (by simp at hx), fun x hx => (by simp at hx), fun x hx => (by simp at hx)⟩
  · intro i j g hi hj hne hg hg'
    have h1 := wf i g hi hg
    have h2 := wf j g hj hg'
    rcases (show i = 0 ∨ i = 1 ∨ i = 2 ∨ i = 3 by omega) with rfl | rfl | rfl | rfl <;> rcases (show j = 0 ∨ j = 1 ∨ j = 2 ∨ j = 3 by omega) with rfl | rfl | rfl | rfl <;> first | exact absurd rfl hne | (simp at h1 h2; omega)
  · intro i g hi hg q
    have h1 := wf i g hi hg
    have h2 := kf g q
    rcases (show i = 0 ∨ i = 1 ∨ i = 2 ∨ i = 3 by omega) with rfl | rfl | rfl | rfl <;> (simp at h1; omega)
  · intro i g hi hg
    have h1 := wf i g hi hg
    rw [h1]
    split <;> (try split) <;> (try split) <;> omega
  · intro g hg
    have := kf g hg
    omega
  · intro x hx
    simp at hx
set_option maxRecDepth 100000 in
set_option maxHeartbeats 4000000 in
theorem writes5 (hold : Holds) (w : World) (va : Option Addr) (cap : Nat) (ps : List Pt) (hcells : ∀ j x, ps[j]? = some x → ∃ b off, va = some ⟨b, off, none⟩ ∧ PtAt w ⟨b, off + j * 3, none⟩ x) (hcap : ps.length ≤ cap) (N : Nat) (hB : ∀ x ∈ ps, x.B.length + 10 ≤ N) (hN : ps.length * N + N + 200 ≤ 140737488355328) (hL : ps.length ≤ 9000000) :
    Calls Try.prog 5 #[.slice va ps.length cap] w fun e w' => e = .returned (.bool true) ∧ Turn no w w' := by
  obtain ⟨L, hLe⟩ : ∃ L, ps.length = L := ⟨_, rfl⟩
  rw [hLe] at hcap hN hL ⊢
  have Hc := shutX (And.intro hcells (And.intro hB (And.intro hLe hN)))
  clear hcells hB hLe hN
  go_enter Try.func5, Try.ntmps5
  go_wp2_with fail
  refine (newWriter_any w).mono ?_
  rintro e w1 ⟨rfl, n1, t1⟩
  go_wp2_with fail
  refine (newWriter_any w1).mono ?_
  rintro e w2 ⟨rfl, n2, t2⟩
  have S0 := sn_begin w w1 w2 N n1 t1 n2 t2
  obtain ⟨p0, hp0⟩ : ∃ p, w.heap.size = p := ⟨_, rfl⟩
  obtain ⟨p1, hp1⟩ : ∃ p, w1.heap.size = p := ⟨_, rfl⟩
  obtain ⟨q0, hq0⟩ : ∃ p, w2.heap.size = p := ⟨_, rfl⟩
  have hw0 := t1.size
  go_upto_region 7 with fail
  rw [hp0, hp1, hq0] at S0
  try rw [hp0, hp1, hq0]
  obtain ⟨w3, hw3⟩ : ∃ x, ((w2.alloc (.cells #[.slice none 0 0, .int .i64 0] 54)).alloc (.cells #[.slice none 0 0, .int .i64 0] 54)).alloc (.cells #[.slice none 0 0, .slice none 0 0, .slice none 0 0, .slice none 0 0] 58) = x := ⟨_, rfl⟩
  rw [hw3] at S0 ⊢
  obtain ⟨q1, hq1⟩ : ∃ p, q0 + 1 = p := ⟨_, rfl⟩
  rw [hq1] at S0
  try rw [hq1]
  obtain ⟨kp, hkp⟩ : ∃ p, q1 + 1 = p := ⟨_, rfl⟩
  rw [hkp] at S0
  try rw [hkp]
  clear n1 n2 t1 t2 hw3 hq1 hkp hq0 hp1 hw0
  go_loopw [8] (fun c wr => ∃ i : Nat, i ≤ L ∧ c = .int .i64 i ∧ Sn w wr (P4 p0 p1 q0 q1) kp N i (2 * min i 64)) (fun c _ => L - (intOf c).toNat)
  case atStart => exact ⟨0, Nat.zero_le _, rfl, S0⟩
  case round =>
    clear S0
    obtain ⟨i, hi, rfl, S⟩ := hrel
    have hNi : i * N + N + 200 ≤ 140737488355328 := by
      have := Hc.out.2.2.2
      have : i * N ≤ L * N := Nat.mul_le_mul_right N hi
      omega
    by_cases hlt : i < L
    · have hlt' : (i : Int) < (L : Int) := by omega
      obtain ⟨x, hx⟩ : ∃ x, ps[i]? = some x := ⟨ps[i]'(by rw [Hc.out.2.2.1]; exact hlt), List.getElem?_eq_getElem _⟩
      obtain ⟨b, off, rfl, hp⟩ := Hc.out.1 i x hx
      have hxN := Hc.out.2.1 x (List.mem_of_getElem? hx)
      have hN1 : (i + 1) * N + 100 ≤ 140737488355328 := by rw [Nat.add_mul, Nat.one_mul]; omega
      obtain ⟨xk, xn, xvb, xB⟩ := x
      have hn : xn < 18446744073709551616 := hp.2.2.2.1
      have hb : Bs w xvb xB := hp.2.2.2.2
      obtain ⟨xa, xc, hxv⟩ := hb.slice
      have hxv' : xvb = .slice xa xB.length xc := hxv
      subst hxv'
      clear hxv
      obtain ⟨Cx, hCx⟩ : ∃ Cx, [Value.int .i64 xk, .int .u64 xn, .slice xa xB.length xc] = Cx := ⟨_, rfl⟩
      have hAg : #[Value.int .i64 xk, .int .u64 xn, .slice xa xB.length xc] = Cx.toArray := by rw [← hCx]
      have s27 : (Try.prog.info? 27).map (·.size) = some Cx.length := by rw [← hCx]; kernel_rfl
      have Hcc : Shut (∀ W, Turn no w W → W.rangeAt b (off + i * 3) Cx) := shutX (fun W t => by
        rw [← hCx]
        obtain ⟨y0, y1, y2⟩ := (hp.turn_no t).lit
        intro l u hu
        rcases l with _ | _ | _ | l
        · simp at hu; subst hu; exact y0
        · simp at hu; subst hu; exact y1
        · simp at hu; subst hu; exact y2
        · simp at hu)
      have tS : Turn no w wr := (by obtain ⟨_, _, _, _, _, _, _, _, _, t⟩ := S; exact t)
      have hr1 := Hcc.out wr tS
      have co1 : ∀ W, Sn w W (P4 p0 p1 q0 q1) kp N (i + 1) (2 * min i 64) → Calls Try.prog 24 #[.pointer (some ⟨p0, 0, none⟩), .pointer (some ⟨q0, 0, none⟩), .pointer (some ⟨kp, 0, none⟩)] W fun e w' => e = .returned (.bool true) ∧ Sn w w' (P4 p0 p1 q0 q1) kp N (i + 1) (2 * min i 64 + 1) := fun W h => outs_step (j := 0) h (by omega) (by omega) hN1
      have co2 : ∀ W, Sn w W (P4 p0 p1 q0 q1) kp N (i + 1) (2 * min i 64 + 1) → Calls Try.prog 24 #[.pointer (some ⟨p1, 0, none⟩), .pointer (some ⟨q1, 0, none⟩), .pointer (some ⟨kp, 0, none⟩)] W fun e w' => e = .returned (.bool true) ∧ Sn w w' (P4 p0 p1 q0 q1) kp N (i + 1) (2 * min i 64 + 1 + 1) := fun W h => outs_step (j := 1) h (by omega) (by omega) hN1
      clear hp hx tS
      have HL := shutX (And.intro hi (And.intro hlt (And.intro hNi hN1)))
      have hib : (i : Int) ≤ 9000000 := by omega
      by_cases hpp : i % 2 = 0
      · have hpar : ((i : Int) % 2 == 0) = true := by simp; omega
        have cl : Calls Try.prog 22 #[.pointer (some ⟨p0, 0, none⟩), .agg #[.int .i64 xk, .int .u64 xn, .slice xa xB.length xc]] wr fun e w' => e = .returned (.bool true) ∧ Md w w' (P4 p0 p1 q0 q1) kp N i (2 * min i 64) 0 ⟨xk, xn, .slice xa xB.length xc, xB⟩ := lay_step (j := 0) (x := ⟨xk, xn, .slice xa xB.length xc, xB⟩) S (by omega) hn hb hxN (by omega)
        have cp : ∀ W, Md w W (P4 p0 p1 q0 q1) kp N i (2 * min i 64) 0 ⟨xk, xn, .slice xa xB.length xc, xB⟩ → Calls Try.prog 23 #[.pointer (some ⟨q0, 0, none⟩), .agg #[.int .i64 xk, .int .u64 xn, .slice xa xB.length xc]] W fun e w' => e = .returned (.tuple #[]) ∧ Sn w w' (P4 p0 p1 q0 q1) kp N (i + 1) (2 * min i 64) := fun W M => paper_step (i := i) (j := 0) (x := ⟨xk, xn, .slice xa xB.length xc, xB⟩) M (by omega) hn hb hxN (by omega)
        rw [hAg] at cl
        simp only [hAg] at cp
        have Hp := shutX (And.intro cp (And.intro co1 co2))
        clear cp co1 co2
        clear hn hb hxN S hNi hN1 hL hi hlt hAg hCx
        go_upto_region 12 with (first | (guard_target =~ wpList _ _ _ ({ dst := _, op := Op.load 27 _, .. } :: _) _ _; refine wpList_load_mid rfl 27 (.tmp 30) rfl b (off + i * 3) rfl Cx _ hr1 Try.underlying27 rfl s27 ?_) | (go_at_call 22; refine cl.mono ?_; rintro e w4 ⟨rfl, M4⟩; have T4 : Turn no w w4 := (by obtain ⟨_, _, _, _, _, _, _, _, _, _, _, _, _, _, t⟩ := M4; exact t); have hr4 := Hcc.out w4 T4; clear cl))
        go_upto_region 15 with (first | (guard_target =~ wpList _ _ _ ({ dst := _, op := Op.load 27 _, .. } :: _) _ _; refine wpList_load_mid rfl 27 (.tmp 36) rfl b (off + i * 3) rfl Cx _ hr4 Try.underlying27 rfl s27 ?_) | (go_at_call 23; refine (Hp.out.1 w4 M4).mono ?_; rintro e w5 ⟨rfl, S5⟩))
        by_cases h64 : i < 64
        · have h64' : (i : Int) < 64 := by omega
          go_wp2_with fail
          refine (Hp.out.2.1 w5 S5).mono ?_
          rintro e w6 ⟨rfl, S6⟩
          go_wp2_with fail
          refine (Hp.out.2.2 w6 S6).mono ?_
          rintro e w7 ⟨rfl, S7⟩
          go_wp2_with fail
          go_roundw
          case rel => exact ⟨i + 1, by have := HL.out.2.1; omega, by go_num, by have := S7; rwa [show 2 * min i 64 + 1 + 1 = 2 * min (i + 1) 64 by omega] at this⟩
          case measure => have := HL.out.2.1; simp [intOf]; omega
        · have h64' : ¬ (i : Int) < 64 := by omega
          go_wp2_with fail
          go_roundw
          case rel => exact ⟨i + 1, by have := HL.out.2.1; omega, by go_num, by have := S5; rwa [show 2 * min i 64 = 2 * min (i + 1) 64 by omega] at this⟩
          case measure => have := HL.out.2.1; simp [intOf]; omega
      · have hpar : ((i : Int) % 2 == 0) = false := by simp; omega
        have cl : Calls Try.prog 22 #[.pointer (some ⟨p1, 0, none⟩), .agg #[.int .i64 xk, .int .u64 xn, .slice xa xB.length xc]] wr fun e w' => e = .returned (.bool true) ∧ Md w w' (P4 p0 p1 q0 q1) kp N i (2 * min i 64) 1 ⟨xk, xn, .slice xa xB.length xc, xB⟩ := lay_step (j := 1) (x := ⟨xk, xn, .slice xa xB.length xc, xB⟩) S (by omega) hn hb hxN (by omega)
        have cp : ∀ W, Md w W (P4 p0 p1 q0 q1) kp N i (2 * min i 64) 1 ⟨xk, xn, .slice xa xB.length xc, xB⟩ → Calls Try.prog 23 #[.pointer (some ⟨q1, 0, none⟩), .agg #[.int .i64 xk, .int .u64 xn, .slice xa xB.length xc]] W fun e w' => e = .returned (.tuple #[]) ∧ Sn w w' (P4 p0 p1 q0 q1) kp N (i + 1) (2 * min i 64) := fun W M => paper_step (i := i) (j := 1) (x := ⟨xk, xn, .slice xa xB.length xc, xB⟩) M (by omega) hn hb hxN (by omega)
        rw [hAg] at cl
        simp only [hAg] at cp
        have Hp := shutX (And.intro cp (And.intro co1 co2))
        clear cp co1 co2
        clear hn hb hxN S hNi hN1 hL hi hlt hAg hCx
        go_upto_region 14 with (first | (guard_target =~ wpList _ _ _ ({ dst := _, op := Op.load 27 _, .. } :: _) _ _; refine wpList_load_mid rfl 27 (.tmp 42) rfl b (off + i * 3) rfl Cx _ hr1 Try.underlying27 rfl s27 ?_) | (go_at_call 22; refine cl.mono ?_; rintro e w4 ⟨rfl, M4⟩; have T4 : Turn no w w4 := (by obtain ⟨_, _, _, _, _, _, _, _, _, _, _, _, _, _, t⟩ := M4; exact t); have hr4 := Hcc.out w4 T4; clear cl))
        go_upto_region 15 with (first | (guard_target =~ wpList _ _ _ ({ dst := _, op := Op.load 27 _, .. } :: _) _ _; refine wpList_load_mid rfl 27 (.tmp 48) rfl b (off + i * 3) rfl Cx _ hr4 Try.underlying27 rfl s27 ?_) | (go_at_call 23; refine (Hp.out.1 w4 M4).mono ?_; rintro e w5 ⟨rfl, S5⟩))
        by_cases h64 : i < 64
        · have h64' : (i : Int) < 64 := by omega
          go_wp2_with fail
          refine (Hp.out.2.1 w5 S5).mono ?_
          rintro e w6 ⟨rfl, S6⟩
          go_wp2_with fail
          refine (Hp.out.2.2 w6 S6).mono ?_
          rintro e w7 ⟨rfl, S7⟩
          go_wp2_with fail
          go_roundw
          case rel => exact ⟨i + 1, by have := HL.out.2.1; omega, by go_num, by have := S7; rwa [show 2 * min i 64 + 1 + 1 = 2 * min (i + 1) 64 by omega] at this⟩
          case measure => have := HL.out.2.1; simp [intOf]; omega
        · have h64' : ¬ (i : Int) < 64 := by omega
          go_wp2_with fail
          go_roundw
          case rel => exact ⟨i + 1, by have := HL.out.2.1; omega, by go_num, by have := S5; rwa [show 2 * min i 64 = 2 * min (i + 1) 64 by omega] at this⟩
          case measure => have := HL.out.2.1; simp [intOf]; omega
    · obtain rfl : i = L := by omega
      have hlt' : ¬ (i : Int) < (i : Int) := by omega
      have c1 := outs_step (j := 0) S (by omega) (by omega) (by omega)
      have c2 := fun W (h : Sn w W (P4 p0 p1 q0 q1) kp N i (2 * min i 64 + 1)) => outs_step (j := 1) h (by omega) (by omega) (by omega)
      have c3 := fun W (h : Sn w W (P4 p0 p1 q0 q1) kp N i (2 * min i 64 + 1 + 1)) => holds_step hold h (by omega) (by omega)
      have H2 := shutX (And.intro c2 c3)
      clear c2 c3 S hNi
      go_wp2_with (first | (go_at_call 25; refine (H2.out.2 w5 S5).mono ?_; rintro e w6 ⟨rfl, t6⟩) | (go_at_call 24; refine c1.mono ?_; rintro e w4 ⟨rfl, S4⟩; clear c1) | (go_at_call 24; refine (H2.out.1 w4 S4).mono ?_; rintro e w5 ⟨rfl, S5⟩))
      go_ret
      exact ⟨rfl, t6⟩
end Go.Proofs.Ytfjdojodbhmmaaa
