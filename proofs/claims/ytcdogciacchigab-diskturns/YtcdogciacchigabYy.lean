/- Y2, Y3, Y4, Y5, Y6 in one. -/
import Derived.Test.YtcdogciacchigabY1
import Derived.Test.YtcdogciacchigabR6
import Derived.Test.YtcdogciacchigabR11
import Derived.Test.YtcdogciacchigabRq
import Derived.Test.YtcdogciacchigabBb
import Derived.Deep.CutRange
import Derived.Test.YtcdogciacchigabQ0
-- step, call by call.
namespace Go.Proofs.Ytcdogciacchigab
open Go.RowKit Go.Maps
set_option linter.unusedVariables false

section
variable {B : Nat} {Y : Nat → Prop} {w : World} {p q : Nat} {s : St}
set_option maxRecDepth 100000 in
set_option maxHeartbeats 8000000 in
theorem step6 (h : Pr B Y w p q s s) (hB : B ≤ w.heap.size) (hY : ∀ k, Y k → k < w.heap.size) (o : Opx) (ho : Ox B w o) (hk : o.kind = 6) :
    Calls Try.prog 25 #[.agg #[ptr p, ptr q], .agg (opC o)] w fun e w' => e = .returned (.bool true) ∧ Pr B Y w' p q s s ∧ Turn (out B Y) w w' := by
  have TB : Turn no w ((w.alloc (.cells #[ptr p, ptr q] 55)).alloc (.cells (opC o) 33)) := ((Turn.refl no w).alloc _).alloc _
  have rb2 : Row ((w.alloc (.cells #[ptr p, ptr q] 55)).alloc (.cells (opC o) 33)) w.heap.size #[ptr p, ptr q] 55 := (Row.new w _ 55).alloc _
  have rb3 : Row ((w.alloc (.cells #[ptr p, ptr q] 55)).alloc (.cells (opC o) 33)) (w.heap.size + 1) (opC o) 33 := Row.newAt _ _ 33 _ (by simp)
  obtain ⟨va, vc, hvs⟩ := ho.data.slice
  obtain ⟨ka, kn, kc, hks⟩ : ∃ ka kn kc, o.vk = .slice ka kn kc := by
    obtain ⟨a, c, e⟩ := ho.keep.slice
    exact ⟨_, _, _, e⟩
  obtain ⟨kind, who, nm, vd, data, n, t, vk, keep, junk⟩ := o
  simp only at *
  subst hvs hks
  have hnm := ho.nm
  simp only at hnm
  have hob := ho.turn_no TB
  generalize hwb : (w.alloc (.cells #[ptr p, ptr q] 55)).alloc (.cells (opC ⟨kind, who, nm, .slice va data.length vc, data, n, t, .slice ka kn kc, keep, junk⟩) 33) = wb at *
  have hcells : ∀ W : World, Turn no wb W → W.cell? ⟨w.heap.size, 0, none⟩ = some (ptr p) ∧ W.cell? ⟨w.heap.size, 1, none⟩ = some (ptr q) ∧ W.cell? ⟨w.heap.size + 1, 0, none⟩ = some (.int .i64 kind) ∧ W.cell? ⟨w.heap.size + 1, 2, none⟩ = some (strV nm) := fun W t => by
    have r2 := rb2.turn t (fun q => q)
    have r3 := rb3.turn t (fun q => q)
    exact ⟨r2.cell 0 _ rfl, r2.cell 1 _ rfl, r3.cell 0 _ rfl, r3.cell 2 _ rfl⟩
  have HC := shut hcells
  have hP := h.turn_no TB
  have HP := shut hP
  have HTB := shut TB
  have x3 := rb3.cell 1 _ rfl
  have x4 := rb3.cell 3 _ rfl
  have x5 := rb3.cell 4 _ rfl
  have x6 := rb3.cell 5 _ rfl
  have x7 := rb3.cell 6 _ rfl
  have x8 := rb3.cell 7 _ rfl
  have x9 := rb3.cell 8 _ rfl
  have x10 := rb3.cell 9 _ rfl
  have HNUM := shut num10
  have hBb : B ≤ wb.heap.size := Nat.le_trans hB TB.size
  obtain ⟨x0, x1, x2, xn⟩ := HC.out wb (Turn.refl _ _)
  clear hcells h ho rb2 rb3 TB hP
  subst hk
  obtain ⟨K, L, hD, hR, _⟩ := HP.out
  have hr1 := read20 hD nm hnm
  have hr2 := fun W (t : Turn no wb W) => rread57 (hR.turn_no t) nm hnm
  have HR2 := shut hr2
  clear hr2 hob
  generalize foundE s nm = E at *
  generalize readS s nm = bs at *
  unfold ptr strV opC at *
  go_enter Try.func25, Try.ntmps25
  go_wp2_with fail
  refine hr1.mono ?_
  rintro e w1 ⟨v1, rfl, hO1, _, t1⟩
  obtain ⟨a1, c1, rfl⟩ := hO1.bs.slice
  obtain ⟨y0, y1, y2, yn⟩ := HC.out w1 t1
  have hr2 := HR2.out w1 t1
  have HO1 := shut hO1
  clear hr1 hO1 x0 x1 x2 xn x3 x4 x5 x6 x7 x8 x9 x10
  go_wp2_with fail
  refine hr2.mono ?_
  rintro e w2 ⟨a2, c2, rfl, hO2, _, t2⟩
  have hq := HNUM.out w2 E
  have cv1 := bytes_text (HO1.out.turn_no t2).bs
  have cv2 := bytes_text hO2.bs
  have HPF : Shut (Pr B Y w2 p q s s) := HP.out.turn_no (t1.then_no t2)
  have HTF : Shut (Turn (out B Y) w w2) := (HTB.out.then_no (t1.then_no t2)).of_no
  clear hr2 hO2 y0 y1 y2 yn
  go_wp2_with fail
  refine hq.mono ?_
  rintro e w6 ⟨rfl, rfl⟩
  go_wp2_with fail
  refine hq.mono ?_
  rintro e w7 ⟨rfl, rfl⟩
  go_wp2_with fail
  go_ret
  exact ⟨rfl, HPF.out, HTF.out⟩

set_option maxRecDepth 100000 in
set_option maxHeartbeats 8000000 in
theorem step7 (h : Pr B Y w p q s s) (hB : B ≤ w.heap.size) (hY : ∀ k, Y k → k < w.heap.size) (o : Opx) (ho : Ox B w o) (hk : o.kind = 7) :
    Calls Try.prog 25 #[.agg #[ptr p, ptr q], .agg (opC o)] w fun e w' => e = .returned (.bool true) ∧ Pr B Y w' p q s s ∧ Turn (out B Y) w w' := by
  have TB : Turn no w ((w.alloc (.cells #[ptr p, ptr q] 55)).alloc (.cells (opC o) 33)) := ((Turn.refl no w).alloc _).alloc _
  have rb2 : Row ((w.alloc (.cells #[ptr p, ptr q] 55)).alloc (.cells (opC o) 33)) w.heap.size #[ptr p, ptr q] 55 := (Row.new w _ 55).alloc _
  have rb3 : Row ((w.alloc (.cells #[ptr p, ptr q] 55)).alloc (.cells (opC o) 33)) (w.heap.size + 1) (opC o) 33 := Row.newAt _ _ 33 _ (by simp)
  obtain ⟨va, vc, hvs⟩ := ho.data.slice
  obtain ⟨ka, kn, kc, hks⟩ : ∃ ka kn kc, o.vk = .slice ka kn kc := by
    obtain ⟨a, c, e⟩ := ho.keep.slice
    exact ⟨_, _, _, e⟩
  obtain ⟨kind, who, nm, vd, data, n, t, vk, keep, junk⟩ := o
  simp only at *
  subst hvs hks
  have hnm := ho.nm
  simp only at hnm
  have hob := ho.turn_no TB
  generalize hwb : (w.alloc (.cells #[ptr p, ptr q] 55)).alloc (.cells (opC ⟨kind, who, nm, .slice va data.length vc, data, n, t, .slice ka kn kc, keep, junk⟩) 33) = wb at *
  have hcells : ∀ W : World, Turn no wb W → W.cell? ⟨w.heap.size, 0, none⟩ = some (ptr p) ∧ W.cell? ⟨w.heap.size, 1, none⟩ = some (ptr q) ∧ W.cell? ⟨w.heap.size + 1, 0, none⟩ = some (.int .i64 kind) ∧ W.cell? ⟨w.heap.size + 1, 2, none⟩ = some (strV nm) := fun W t => by
    have r2 := rb2.turn t (fun q => q)
    have r3 := rb3.turn t (fun q => q)
    exact ⟨r2.cell 0 _ rfl, r2.cell 1 _ rfl, r3.cell 0 _ rfl, r3.cell 2 _ rfl⟩
  have HC := shut hcells
  have hP := h.turn_no TB
  have HP := shut hP
  have HTB := shut TB
  have x3 := rb3.cell 1 _ rfl
  have x4 := rb3.cell 3 _ rfl
  have x5 := rb3.cell 4 _ rfl
  have x6 := rb3.cell 5 _ rfl
  have x7 := rb3.cell 6 _ rfl
  have x8 := rb3.cell 7 _ rfl
  have x9 := rb3.cell 8 _ rfl
  have x10 := rb3.cell 9 _ rfl
  have HNUM := shut num10
  have hBb : B ≤ wb.heap.size := Nat.le_trans hB TB.size
  obtain ⟨x0, x1, x2, xn⟩ := HC.out wb (Turn.refl _ _)
  clear hcells h ho rb2 rb3 TB hP
  subst hk
  obtain ⟨K, L, hD, hR, _⟩ := HP.out
  have hr1 := size40 hD nm hnm
  have hr2 := fun W (t : Turn no wb W) => rsize59 (hR.turn_no t) nm hnm
  have HR2 := shut hr2
  clear hr2 hob
  generalize foundE s nm = E at *
  generalize sizeS s nm = z at *
  unfold ptr strV opC at *
  go_enter Try.func25, Try.ntmps25
  go_wp2_with fail
  refine hr1.mono ?_
  rintro e w1 ⟨rfl, t1⟩
  obtain ⟨y0, y1, y2, yn⟩ := HC.out w1 t1
  have hr2 := HR2.out w1 t1
  clear hr1 x0 x1 x2 xn x3 x4 x5 x6 x7 x8 x9 x10
  go_wp2_with fail
  refine hr2.mono ?_
  rintro e w2 ⟨rfl, t2⟩
  have hq := HNUM.out w2 E
  have HPF : Shut (Pr B Y w2 p q s s) := HP.out.turn_no (t1.then_no t2)
  have HTF : Shut (Turn (out B Y) w w2) := (HTB.out.then_no (t1.then_no t2)).of_no
  clear hr2 y0 y1 y2 yn
  go_wp2_with fail
  refine hq.mono ?_
  rintro e w6 ⟨rfl, rfl⟩
  go_wp2_with fail
  refine hq.mono ?_
  rintro e w7 ⟨rfl, rfl⟩
  go_wp2_with fail
  go_ret
  exact ⟨rfl, HPF.out, HTF.out⟩

set_option maxRecDepth 100000 in
set_option maxHeartbeats 8000000 in
theorem step9 (h : Pr B Y w p q s s) (hB : B ≤ w.heap.size) (hY : ∀ k, Y k → k < w.heap.size) (o : Opx) (ho : Ox B w o) (hk : o.kind = 9) :
    Calls Try.prog 25 #[.agg #[ptr p, ptr q], .agg (opC o)] w fun e w' => e = .returned (.bool true) ∧ Pr B Y w' p q s s ∧ Turn (out B Y) w w' := by
  have TB : Turn no w ((w.alloc (.cells #[ptr p, ptr q] 55)).alloc (.cells (opC o) 33)) := ((Turn.refl no w).alloc _).alloc _
  have rb2 : Row ((w.alloc (.cells #[ptr p, ptr q] 55)).alloc (.cells (opC o) 33)) w.heap.size #[ptr p, ptr q] 55 := (Row.new w _ 55).alloc _
  have rb3 : Row ((w.alloc (.cells #[ptr p, ptr q] 55)).alloc (.cells (opC o) 33)) (w.heap.size + 1) (opC o) 33 := Row.newAt _ _ 33 _ (by simp)
  obtain ⟨va, vc, hvs⟩ := ho.data.slice
  obtain ⟨ka, kn, kc, hks⟩ : ∃ ka kn kc, o.vk = .slice ka kn kc := by
    obtain ⟨a, c, e⟩ := ho.keep.slice
    exact ⟨_, _, _, e⟩
  obtain ⟨kind, who, nm, vd, data, n, t, vk, keep, junk⟩ := o
  simp only at *
  subst hvs hks
  have hnm := ho.nm
  simp only at hnm
  have hob := ho.turn_no TB
  generalize hwb : (w.alloc (.cells #[ptr p, ptr q] 55)).alloc (.cells (opC ⟨kind, who, nm, .slice va data.length vc, data, n, t, .slice ka kn kc, keep, junk⟩) 33) = wb at *
  have hcells : ∀ W : World, Turn no wb W → W.cell? ⟨w.heap.size, 0, none⟩ = some (ptr p) ∧ W.cell? ⟨w.heap.size, 1, none⟩ = some (ptr q) ∧ W.cell? ⟨w.heap.size + 1, 0, none⟩ = some (.int .i64 kind) ∧ W.cell? ⟨w.heap.size + 1, 2, none⟩ = some (strV nm) := fun W t => by
    have r2 := rb2.turn t (fun q => q)
    have r3 := rb3.turn t (fun q => q)
    exact ⟨r2.cell 0 _ rfl, r2.cell 1 _ rfl, r3.cell 0 _ rfl, r3.cell 2 _ rfl⟩
  have HC := shut hcells
  have hP := h.turn_no TB
  have HP := shut hP
  have HTB := shut TB
  have x3 := rb3.cell 1 _ rfl
  have x4 := rb3.cell 3 _ rfl
  have x5 := rb3.cell 4 _ rfl
  have x6 := rb3.cell 5 _ rfl
  have x7 := rb3.cell 6 _ rfl
  have x8 := rb3.cell 7 _ rfl
  have x9 := rb3.cell 8 _ rfl
  have x10 := rb3.cell 9 _ rfl
  have HNUM := shut num10
  have hBb : B ≤ wb.heap.size := Nat.le_trans hB TB.size
  obtain ⟨x0, x1, x2, xn⟩ := HC.out wb (Turn.refl _ _)
  clear hcells h ho rb2 rb3 TB hP
  subst hk
  obtain ⟨K, L, hD, hR, _⟩ := HP.out
  have hr1 := fun n => calls14 (hD.turn_no ((Turn.refl no wb).drewN n))
  have hr2 := fun n => calls60 (hR.turn_no ((Turn.refl no wb).drewN n))
  have HR1 := shut hr1
  have HR2 := shut hr2
  clear hr1 hr2 hob
  unfold ptr strV opC at *
  go_enter Try.func25, Try.ntmps25
  go_wp2_with fail
  go_quiet ((first | (go_at_call 11; exact Calls.quiet_of_same (HR1.out _)) | (go_at_call 60; exact Calls.quiet_of_same (HR2.out _))))
  have HPF : Shut (Pr B Y (wb.drewN nq) p q s s) := HP.out.turn_no ((Turn.refl no wb).drewN nq)
  have HTF : Shut (Turn (out B Y) w (wb.drewN nq)) := (HTB.out.then_no ((Turn.refl no wb).drewN nq)).of_no
  go_wp2_with fail
  go_ret
  exact ⟨rfl, HPF.out, HTF.out⟩

set_option maxRecDepth 100000 in
set_option maxHeartbeats 8000000 in
theorem step10 (h : Pr B Y w p q s s) (hB : B ≤ w.heap.size) (hY : ∀ k, Y k → k < w.heap.size) (o : Opx) (ho : Ox B w o) (hk : o.kind = 10) :
    Calls Try.prog 25 #[.agg #[ptr p, ptr q], .agg (opC o)] w fun e w' => e = .returned (.bool true) ∧ Pr B Y w' p q s s ∧ Turn (out B Y) w w' := by
  have TB : Turn no w ((w.alloc (.cells #[ptr p, ptr q] 55)).alloc (.cells (opC o) 33)) := ((Turn.refl no w).alloc _).alloc _
  have rb2 : Row ((w.alloc (.cells #[ptr p, ptr q] 55)).alloc (.cells (opC o) 33)) w.heap.size #[ptr p, ptr q] 55 := (Row.new w _ 55).alloc _
  have rb3 : Row ((w.alloc (.cells #[ptr p, ptr q] 55)).alloc (.cells (opC o) 33)) (w.heap.size + 1) (opC o) 33 := Row.newAt _ _ 33 _ (by simp)
  obtain ⟨va, vc, hvs⟩ := ho.data.slice
  obtain ⟨ka, kn, kc, hks⟩ : ∃ ka kn kc, o.vk = .slice ka kn kc := by
    obtain ⟨a, c, e⟩ := ho.keep.slice
    exact ⟨_, _, _, e⟩
  obtain ⟨kind, who, nm, vd, data, n, t, vk, keep, junk⟩ := o
  simp only at *
  subst hvs hks
  have hnm := ho.nm
  simp only at hnm
  have hob := ho.turn_no TB
  generalize hwb : (w.alloc (.cells #[ptr p, ptr q] 55)).alloc (.cells (opC ⟨kind, who, nm, .slice va data.length vc, data, n, t, .slice ka kn kc, keep, junk⟩) 33) = wb at *
  have hcells : ∀ W : World, Turn no wb W → W.cell? ⟨w.heap.size, 0, none⟩ = some (ptr p) ∧ W.cell? ⟨w.heap.size, 1, none⟩ = some (ptr q) ∧ W.cell? ⟨w.heap.size + 1, 0, none⟩ = some (.int .i64 kind) ∧ W.cell? ⟨w.heap.size + 1, 2, none⟩ = some (strV nm) := fun W t => by
    have r2 := rb2.turn t (fun q => q)
    have r3 := rb3.turn t (fun q => q)
    exact ⟨r2.cell 0 _ rfl, r2.cell 1 _ rfl, r3.cell 0 _ rfl, r3.cell 2 _ rfl⟩
  have HC := shut hcells
  have hP := h.turn_no TB
  have HP := shut hP
  have HTB := shut TB
  have x3 := rb3.cell 1 _ rfl
  have x4 := rb3.cell 3 _ rfl
  have x5 := rb3.cell 4 _ rfl
  have x6 := rb3.cell 5 _ rfl
  have x7 := rb3.cell 6 _ rfl
  have x8 := rb3.cell 7 _ rfl
  have x9 := rb3.cell 8 _ rfl
  have x10 := rb3.cell 9 _ rfl
  have HNUM := shut num10
  have hBb : B ≤ wb.heap.size := Nat.le_trans hB TB.size
  obtain ⟨x0, x1, x2, xn⟩ := HC.out wb (Turn.refl _ _)
  clear hcells h ho rb2 rb3 TB hP
  subst hk
  obtain ⟨K, L, hD, hR, _⟩ := HP.out
  have hr1 := fun n => on13 (hD.turn_no ((Turn.refl no wb).drewN n))
  have hr2 := fun n => on61 (hR.turn_no ((Turn.refl no wb).drewN n))
  have HR1 := shut hr1
  have HR2 := shut hr2
  clear hr1 hr2 hob
  unfold ptr strV opC at *
  go_enter Try.func25, Try.ntmps25
  go_wp2_with fail
  go_quiet ((first | (go_at_call 14; exact Calls.quiet_of_same (HR1.out _)) | (go_at_call 61; exact Calls.quiet_of_same (HR2.out _))))
  have HPF : Shut (Pr B Y (wb.drewN nq) p q s s) := HP.out.turn_no ((Turn.refl no wb).drewN nq)
  have HTF : Shut (Turn (out B Y) w (wb.drewN nq)) := (HTB.out.then_no ((Turn.refl no wb).drewN nq)).of_no
  go_wp2_with fail
  go_ret
  exact ⟨rfl, HPF.out, HTF.out⟩

set_option maxRecDepth 100000 in
set_option maxHeartbeats 8000000 in
theorem stepW (h : Pr B Y w p q s s) (hB : B ≤ w.heap.size) (hY : ∀ k, Y k → k < w.heap.size) (hn : s.n < 4611686018427387904) (hm : s.m < 3518437208780) (o : Opx) (ho : Ox B w o) (hdl : o.data.length ≤ 140737488351232) (hkind : o.kind = 1 ∨ o.kind = 2 ∨ o.kind = 3 ∨ o.kind = 4 ∨ o.kind = 5) :
    Calls Try.prog 25 #[.agg #[ptr p, ptr q], .agg (opC o)] w fun e w' => e = .returned (.bool true) ∧ Pr B Y w' p q (doS s o).1 (doS s o).1 ∧ Turn (out B Y) w w' := by
  have TB : Turn no w ((w.alloc (.cells #[ptr p, ptr q] 55)).alloc (.cells (opC o) 33)) := ((Turn.refl no w).alloc _).alloc _
  have rb2 : Row ((w.alloc (.cells #[ptr p, ptr q] 55)).alloc (.cells (opC o) 33)) w.heap.size #[ptr p, ptr q] 55 := (Row.new w _ 55).alloc _
  have rb3 : Row ((w.alloc (.cells #[ptr p, ptr q] 55)).alloc (.cells (opC o) 33)) (w.heap.size + 1) (opC o) 33 := Row.newAt _ _ 33 _ (by simp)
  obtain ⟨va, vc, hvs⟩ := ho.data.slice
  obtain ⟨ka, kn, kc, hks⟩ : ∃ ka kn kc, o.vk = .slice ka kn kc := by
    obtain ⟨a, c, e⟩ := ho.keep.slice
    exact ⟨_, _, _, e⟩
  obtain ⟨kind, who, nm, vd, data, n, t, vk, keep, junk⟩ := o
  simp only at *
  subst hvs hks
  have hnm := ho.nm
  simp only at hnm
  have hob := ho.turn_no TB
  generalize hwb : (w.alloc (.cells #[ptr p, ptr q] 55)).alloc (.cells (opC ⟨kind, who, nm, .slice va data.length vc, data, n, t, .slice ka kn kc, keep, junk⟩) 33) = wb at *
  have hcells : ∀ W : World, Turn no wb W → W.cell? ⟨w.heap.size, 0, none⟩ = some (ptr p) ∧ W.cell? ⟨w.heap.size, 1, none⟩ = some (ptr q) ∧ W.cell? ⟨w.heap.size + 1, 0, none⟩ = some (.int .i64 kind) ∧ W.cell? ⟨w.heap.size + 1, 2, none⟩ = some (strV nm) := fun W t => by
    have r2 := rb2.turn t (fun q => q)
    have r3 := rb3.turn t (fun q => q)
    exact ⟨r2.cell 0 _ rfl, r2.cell 1 _ rfl, r3.cell 0 _ rfl, r3.cell 2 _ rfl⟩
  have HC := shut hcells
  have hP := h.turn_no TB
  have HP := shut hP
  have HTB := shut TB
  have x3 := rb3.cell 1 _ rfl
  have x4 := rb3.cell 3 _ rfl
  have x5 := rb3.cell 4 _ rfl
  have x6 := rb3.cell 5 _ rfl
  have x7 := rb3.cell 6 _ rfl
  have x8 := rb3.cell 7 _ rfl
  have x9 := rb3.cell 8 _ rfl
  have x10 := rb3.cell 9 _ rfl
  have HNUM := shut num10
  have hBb : B ≤ wb.heap.size := Nat.le_trans hB TB.size
  obtain ⟨x0, x1, x2, xn⟩ := HC.out wb (Turn.refl _ _)
  clear hcells h ho rb2 rb3 TB hP
  have hwr := writes56 HP.out hBb (fun k e => Nat.lt_of_lt_of_le (hY k e) HTB.out.size) hn hm _ hob hdl hkind
  have HTB2 := HTB
  have hwr2 : Calls Try.prog 56 #[.agg #[ptr p, ptr q], .agg (opC ⟨kind, who, nm, .slice va data.length vc, data, n, t, .slice ka kn kc, keep, junk⟩)] wb fun e w' => e = .returned (.bool true) ∧ Pr B Y w' p q (doS s ⟨kind, who, nm, .slice va data.length vc, data, n, t, .slice ka kn kc, keep, junk⟩).1 (doS s ⟨kind, who, nm, .slice va data.length vc, data, n, t, .slice ka kn kc, keep, junk⟩).1 ∧ Turn (out B Y) w w' := hwr.mono (fun e w' hh => ⟨hh.1, hh.2.1, (HTB.out.of_no).trans hh.2.2 (fun _ _ q => q)⟩)
  clear hwr hob
  unfold ptr strV opC at *
  rcases hkind with hk | hk | hk | hk | hk
  all_goals
    subst hk
    go_enter Try.func25, Try.ntmps25
    go_wp2_with fail
    refine hwr2.mono ?_
    rintro e w1 ⟨rfl, hP1, hT1⟩
    go_wp2_with fail
    go_ret
    exact ⟨rfl, hP1, hT1⟩

set_option maxRecDepth 100000 in
set_option maxHeartbeats 8000000 in
theorem stepN (h : Pr B Y w p q s s) (hB : B ≤ w.heap.size) (hY : ∀ k, Y k → k < w.heap.size) (o : Opx) (ho : Ox B w o) (hk : o.kind < 1 ∨ 12 < o.kind) :
    Calls Try.prog 25 #[.agg #[ptr p, ptr q], .agg (opC o)] w fun e w' => e = .returned (.bool true) ∧ Pr B Y w' p q s s ∧ Turn (out B Y) w w' := by
  have TB : Turn no w ((w.alloc (.cells #[ptr p, ptr q] 55)).alloc (.cells (opC o) 33)) := ((Turn.refl no w).alloc _).alloc _
  have rb2 : Row ((w.alloc (.cells #[ptr p, ptr q] 55)).alloc (.cells (opC o) 33)) w.heap.size #[ptr p, ptr q] 55 := (Row.new w _ 55).alloc _
  have rb3 : Row ((w.alloc (.cells #[ptr p, ptr q] 55)).alloc (.cells (opC o) 33)) (w.heap.size + 1) (opC o) 33 := Row.newAt _ _ 33 _ (by simp)
  obtain ⟨va, vc, hvs⟩ := ho.data.slice
  obtain ⟨ka, kn, kc, hks⟩ : ∃ ka kn kc, o.vk = .slice ka kn kc := by
    obtain ⟨a, c, e⟩ := ho.keep.slice
    exact ⟨_, _, _, e⟩
  obtain ⟨kind, who, nm, vd, data, n, t, vk, keep, junk⟩ := o
  simp only at *
  subst hvs hks
  have hnm := ho.nm
  simp only at hnm
  have hob := ho.turn_no TB
  generalize hwb : (w.alloc (.cells #[ptr p, ptr q] 55)).alloc (.cells (opC ⟨kind, who, nm, .slice va data.length vc, data, n, t, .slice ka kn kc, keep, junk⟩) 33) = wb at *
  have hcells : ∀ W : World, Turn no wb W → W.cell? ⟨w.heap.size, 0, none⟩ = some (ptr p) ∧ W.cell? ⟨w.heap.size, 1, none⟩ = some (ptr q) ∧ W.cell? ⟨w.heap.size + 1, 0, none⟩ = some (.int .i64 kind) ∧ W.cell? ⟨w.heap.size + 1, 2, none⟩ = some (strV nm) := fun W t => by
    have r2 := rb2.turn t (fun q => q)
    have r3 := rb3.turn t (fun q => q)
    exact ⟨r2.cell 0 _ rfl, r2.cell 1 _ rfl, r3.cell 0 _ rfl, r3.cell 2 _ rfl⟩
  have HC := shut hcells
  have hP := h.turn_no TB
  have HP := shut hP
  have HTB := shut TB
  have x3 := rb3.cell 1 _ rfl
  have x4 := rb3.cell 3 _ rfl
  have x5 := rb3.cell 4 _ rfl
  have x6 := rb3.cell 5 _ rfl
  have x7 := rb3.cell 6 _ rfl
  have x8 := rb3.cell 7 _ rfl
  have x9 := rb3.cell 8 _ rfl
  have x10 := rb3.cell 9 _ rfl
  have HNUM := shut num10
  have hBb : B ≤ wb.heap.size := Nat.le_trans hB TB.size
  obtain ⟨x0, x1, x2, xn⟩ := HC.out wb (Turn.refl _ _)
  clear hcells h ho rb2 rb3 TB hP
  have HPF : Shut (Pr B Y wb p q s s) := HP.out
  have HTF : Shut (Turn (out B Y) w wb) := HTB.out.of_no
  clear hob
  unfold ptr strV opC at *
  have k1 : (kind == 1) = false := by simp; omega
  have k2 : (kind == 2) = false := by simp; omega
  have k3 : (kind == 3) = false := by simp; omega
  have k4 : (kind == 4) = false := by simp; omega
  have k5 : (kind == 5) = false := by simp; omega
  have k6 : (kind == 6) = false := by simp; omega
  have k7 : (kind == 7) = false := by simp; omega
  have k8 : (kind == 8) = false := by simp; omega
  have k9 : (kind == 9) = false := by simp; omega
  have k10 : (kind == 10) = false := by simp; omega
  have k11 : (kind == 11) = false := by simp; omega
  have k12 : (kind == 12) = false := by simp; omega
  clear hk
  go_enter Try.func25, Try.ntmps25
  go_wp2_with fail
  go_ret
  exact ⟨rfl, HPF.out, HTF.out⟩
end
end Go.Proofs.Ytcdogciacchigab

-- step, call by call.
namespace Go.Proofs.Ytcdogciacchigab
open Go.RowKit Go.Maps
set_option linter.unusedVariables false

section
variable {B : Nat} {Y : Nat → Prop} {w : World} {p q : Nat} {s : St}
set_option maxRecDepth 100000 in
set_option maxHeartbeats 8000000 in
theorem step8 (h : Pr B Y w p q s s) (hB : B ≤ w.heap.size) (hY : ∀ k, Y k → k < w.heap.size) (o : Opx) (ho : Ox B w o) (hk : o.kind = 8) :
    Calls Try.prog 25 #[.agg #[ptr p, ptr q], .agg (opC o)] w fun e w' => e = .returned (.bool true) ∧ Pr B Y w' p q s s ∧ Turn (out B Y) w w' := by
  have TB : Turn no w ((w.alloc (.cells #[ptr p, ptr q] 55)).alloc (.cells (opC o) 33)) := ((Turn.refl no w).alloc _).alloc _
  have rb2 : Row ((w.alloc (.cells #[ptr p, ptr q] 55)).alloc (.cells (opC o) 33)) w.heap.size #[ptr p, ptr q] 55 := (Row.new w _ 55).alloc _
  have rb3 : Row ((w.alloc (.cells #[ptr p, ptr q] 55)).alloc (.cells (opC o) 33)) (w.heap.size + 1) (opC o) 33 := Row.newAt _ _ 33 _ (by simp)
  obtain ⟨va, vc, hvs⟩ := ho.data.slice
  obtain ⟨ka, kn, kc, hks⟩ : ∃ ka kn kc, o.vk = .slice ka kn kc := by
    obtain ⟨a, c, e⟩ := ho.keep.slice
    exact ⟨_, _, _, e⟩
  obtain ⟨kind, who, nm, vd, data, n, t, vk, keep, junk⟩ := o
  simp only at *
  subst hvs hks
  have hnm := ho.nm
  simp only at hnm
  have hob := ho.turn_no TB
  generalize hwb : (w.alloc (.cells #[ptr p, ptr q] 55)).alloc (.cells (opC ⟨kind, who, nm, .slice va data.length vc, data, n, t, .slice ka kn kc, keep, junk⟩) 33) = wb at *
  have hcells : ∀ W : World, Turn no wb W → W.cell? ⟨w.heap.size, 0, none⟩ = some (ptr p) ∧ W.cell? ⟨w.heap.size, 1, none⟩ = some (ptr q) ∧ W.cell? ⟨w.heap.size + 1, 0, none⟩ = some (.int .i64 kind) ∧ W.cell? ⟨w.heap.size + 1, 2, none⟩ = some (strV nm) := fun W t => by
    have r2 := rb2.turn t (fun q => q)
    have r3 := rb3.turn t (fun q => q)
    exact ⟨r2.cell 0 _ rfl, r2.cell 1 _ rfl, r3.cell 0 _ rfl, r3.cell 2 _ rfl⟩
  have HC := shut hcells
  have hP := h.turn_no TB
  have HP := shut hP
  have HTB := shut TB
  have x3 := rb3.cell 1 _ rfl
  have x4 := rb3.cell 3 _ rfl
  have x5 := rb3.cell 4 _ rfl
  have x6 := rb3.cell 5 _ rfl
  have x7 := rb3.cell 6 _ rfl
  have x8 := rb3.cell 7 _ rfl
  have x9 := rb3.cell 8 _ rfl
  have x10 := rb3.cell 9 _ rfl
  have HNUM := shut num10
  have hBb : B ≤ wb.heap.size := Nat.le_trans hB TB.size
  obtain ⟨x0, x1, x2, xn⟩ := HC.out wb (Turn.refl _ _)
  clear hcells h ho rb2 rb3 TB hP
  subst hk
  obtain ⟨K, L, hD, hR, _⟩ := HP.out
  have hn1 := fun W (t : Turn no wb W) => names29 (hD.turn_no t)
  have hn2 := fun W (t : Turn no wb W) => rnames35 (hR.turn_no t)
  have hlen : (if s.off then [] else s.fs.map Pf.nm).length ≤ 65536 := by
    obtain ⟨_, _, _, hd⟩ := hD
    have := hd.inv.count
    split <;> simp <;> omega
  generalize (if s.off then [] else s.fs.map Pf.nm) = NM at *
  have HN1 := shut hn1
  have HN2 := shut hn2
  clear hn1 hn2 hob
  unfold ptr strV opC at *
  go_enter Try.func25, Try.ntmps25
  go_wp2_with fail
  refine wp_region_noPanic ?_
  refine wp_region_held_drew (S := fun W => Turn no wb W) (by kernel_rfl) (Turn.refl _ wb).drew (fun hHeld => ?_)
  refine' wpAnyH_take (i := 0) (v := .pointer (some ⟨w.heap.size, 0, none⟩)) rfl (by kernel_rfl) (by kernel_rfl) (by kernel_rfl) (fun _ _ _ h => h) (Or.inl ⟨by kernel_rfl, fun W hW => ?y1⟩) hHeld ?r1
  · go_simp
  refine' wpAnyH_take (i := 1) (v := .pointer (some ⟨p, 0, none⟩)) rfl (by kernel_rfl) (by kernel_rfl) (by kernel_rfl) (fun _ _ _ h => h) (Or.inl ⟨by kernel_rfl, fun W hW => ?y2⟩) hHeld ?r2
  · have cc := (HC.out W hW).1
    go_simp
  refine' wpAnyH_take (i := 3) (v := .pointer (some ⟨w.heap.size, 1, none⟩)) rfl (by kernel_rfl) (by kernel_rfl) (by kernel_rfl) (fun _ _ _ h => h) (Or.inl ⟨by kernel_rfl, fun W hW => ?y3⟩) hHeld ?r3
  · go_simp
  refine' wpAnyH_take (i := 4) (v := .pointer (some ⟨q, 0, none⟩)) rfl (by kernel_rfl) (by kernel_rfl) (by kernel_rfl) (fun _ _ _ h => h) (Or.inl ⟨by kernel_rfl, fun W hW => ?y4⟩) hHeld ?r4
  · have cc := (HC.out W hW).2.1
    go_simp
  refine wpAnyH_ready (rs := [2]) (by kernel_rfl) (by simp) ?_
  refine AllReadyH.cons rfl (fun K hK => ?_) AllReadyH.nil
  go_simp
  refine (HN1.out _ hHeld).mono ?_
  rintro e w1 ⟨v1, rfl, hO1, _, t1⟩
  obtain ⟨a1, n1, c1, hv1⟩ : ∃ a n c, v1 = .slice a n c := by
    rcases hO1.shape with ⟨e, _⟩ | ⟨_, _, _, e, _⟩
    · exact ⟨_, _, _, e⟩
    · exact ⟨_, _, _, e⟩
  subst hv1
  have HO1 := shut hO1
  clear hO1
  have S1 : Turn no wb w1 := ((Turn.refl no wb).drew).then_no t1
  go_wp2_with fail
  refine hK.out _ _ S1 (fun hHeld => ?_)
  clear hK
  refine wpAnyH_ready (rs := [5]) (by kernel_rfl) (by simp) ?_
  refine AllReadyH.cons rfl (fun K hK => ?_) AllReadyH.nil
  go_simp
  refine (HN2.out _ S1).mono ?_
  rintro e w2 ⟨v2, rfl, hO2, _, t2⟩
  obtain ⟨a2, n2, c2, hv2⟩ : ∃ a n c, v2 = .slice a n c := by
    rcases hO2.shape with ⟨e, _⟩ | ⟨_, _, _, e, _⟩
    · exact ⟨_, _, _, e⟩
    · exact ⟨_, _, _, e⟩
  subst hv2
  have HO2 := shut hO2
  clear hO2
  have S2 := S1.then_no t2
  have hsm := sameNames33 w2 _ _ NM hlen (HO1.out.turn_no t2) HO2.out
  go_wp2_with fail
  refine hK.out _ _ S2 (fun hHeld => ?_)
  clear hK
  refine wpAnyH_ready (rs := [6]) (by kernel_rfl) (by simp) ?_
  refine AllReadyH.cons rfl (fun K hK => ?_) AllReadyH.nil
  go_simp
  refine hsm.mono ?_
  rintro e w3 ⟨rfl, t3⟩
  have S3 := S2.then_no t3
  go_wp2_with fail
  refine hK.out _ _ S3 (fun hHeld => ?_)
  clear hK
  refine' wpAnyH_take (i := 7) (v := .bool true) rfl (by kernel_rfl) (by kernel_rfl) (by kernel_rfl) (fun _ _ _ h => h) (Or.inl ⟨by kernel_rfl, fun W hW => ?y5⟩) hHeld ?r5
  · go_simp
  refine wpAnyH_done (by kernel_rfl) ?_ _
  refine NoPanic.normal ?_
  go_wp2_with fail
  go_ret
  exact ⟨rfl, HP.out.turn_no S3, (HTB.out.then_no S3).of_no⟩
end
end Go.Proofs.Ytcdogciacchigab

-- step: Arm.
namespace Go.Proofs.Ytcdogciacchigab
open Go.RowKit Go.Maps
set_option linter.unusedVariables false

section
variable {B : Nat} {Y : Nat → Prop} {w : World} {p q : Nat} {s : St}
set_option maxRecDepth 100000 in
set_option maxHeartbeats 8000000 in
theorem step11 (h : Pr B Y w p q s s) (hB : B ≤ w.heap.size) (hY : ∀ k, Y k → k < w.heap.size) (hn : s.n < 4611686018427387904) (hm : s.m < 3518437208780) (o : Opx) (ho : Ox B w o) (hk : o.kind = 11) :
    Calls Try.prog 25 #[.agg #[ptr p, ptr q], .agg (opC o)] w fun e w' => e = .returned (.bool true) ∧ Pr B Y w' p q (doS s o).1 (doS s o).1 ∧ Turn (out B Y) w w' := by
  have TB : Turn no w ((w.alloc (.cells #[ptr p, ptr q] 55)).alloc (.cells (opC o) 33)) := ((Turn.refl no w).alloc _).alloc _
  have rb2 : Row ((w.alloc (.cells #[ptr p, ptr q] 55)).alloc (.cells (opC o) 33)) w.heap.size #[ptr p, ptr q] 55 := (Row.new w _ 55).alloc _
  have rb3 : Row ((w.alloc (.cells #[ptr p, ptr q] 55)).alloc (.cells (opC o) 33)) (w.heap.size + 1) (opC o) 33 := Row.newAt _ _ 33 _ (by simp)
  obtain ⟨va, vc, hvs⟩ := ho.data.slice
  obtain ⟨ka, kn, kc, hks⟩ : ∃ ka kn kc, o.vk = .slice ka kn kc := by
    obtain ⟨a, c, e⟩ := ho.keep.slice
    exact ⟨_, _, _, e⟩
  obtain ⟨kind, who, nm, vd, data, n, t, vk, keep, junk⟩ := o
  simp only at *
  subst hvs hks
  have hnm := ho.nm
  simp only at hnm
  have hob := ho.turn_no TB
  generalize hwb : (w.alloc (.cells #[ptr p, ptr q] 55)).alloc (.cells (opC ⟨kind, who, nm, .slice va data.length vc, data, n, t, .slice ka kn kc, keep, junk⟩) 33) = wb at *
  have hcells : ∀ W : World, Turn no wb W → W.cell? ⟨w.heap.size, 0, none⟩ = some (ptr p) ∧ W.cell? ⟨w.heap.size, 1, none⟩ = some (ptr q) ∧ W.cell? ⟨w.heap.size + 1, 0, none⟩ = some (.int .i64 kind) ∧ W.cell? ⟨w.heap.size + 1, 2, none⟩ = some (strV nm) := fun W t => by
    have r2 := rb2.turn t (fun q => q)
    have r3 := rb3.turn t (fun q => q)
    exact ⟨r2.cell 0 _ rfl, r2.cell 1 _ rfl, r3.cell 0 _ rfl, r3.cell 2 _ rfl⟩
  have HC := shut hcells
  have hP := h.turn_no TB
  have HP := shut hP
  have HW := shut h
  have HTB := shut TB
  have x3 := rb3.cell 1 _ rfl
  have x4 := rb3.cell 3 _ rfl
  have x5 := rb3.cell 4 _ rfl
  have x6 := rb3.cell 5 _ rfl
  have x7 := rb3.cell 6 _ rfl
  have x8 := rb3.cell 7 _ rfl
  have x9 := rb3.cell 8 _ rfl
  have x10 := rb3.cell 9 _ rfl
  have HNUM := shut num10
  have hBb : B ≤ wb.heap.size := Nat.le_trans hB TB.size
  obtain ⟨x0, x1, x2, xn⟩ := HC.out wb (Turn.refl _ _)
  clear hcells h ho rb2 rb3 TB hP
  subst hk
  have hws : wb.heap.size = w.heap.size + 2 := by rw [← hwb]; simp
  obtain ⟨X, hX⟩ : ∃ X : Nat → Prop, X = (fun k => Y k ∨ (w.heap.size ≤ k ∧ k < wb.heap.size)) := ⟨_, rfl⟩
  have hXlt : ∀ k, X k → k < wb.heap.size := fun k hk => by rw [hX] at hk; rcases hk with e | e; (have := hY k e; omega); exact e.2
  have hXge : ∀ k, X k → Y k ∨ w.heap.size ≤ k := fun k hk => by rw [hX] at hk; exact hk.imp id (fun e => e.1)
  have HYX : Shut (∀ k, Y k → X k) := fun k e => by rw [hX]; exact Or.inl e
  have hX0 : X w.heap.size := by rw [hX]; exact Or.inr ⟨by omega, by omega⟩
  have hX1 : X (w.heap.size + 1) := by rw [hX]; exact Or.inr ⟨by omega, by omega⟩
  have hP1 : Pr B X wb.drew p q s s := (HW.out.avoid hXge).turn_no (HTB.out.then_no (Turn.refl no wb).drew)
  have eS : doS s ⟨11, who, nm, .slice va data.length vc, data, n, t, .slice ka kn kc, keep, junk⟩ = armS s t := by simp [doS]
  rw [eS]
  obtain ⟨r, hr⟩ : ∃ r, r = armS s t := ⟨_, rfl⟩
  have hc1 : Calls Try.prog 13 #[ptr p, trV t] wb.drew _ := hP1.fst (w := wb.drew) hBb hXlt (r := r) (f := 13) (args := #[ptr p, trV t]) (fun K hD hK => by
    rw [hr]
    exact (arm11 hD hn (by omega) t).mono (fun e w' hh => ⟨hh.1, K, hh.2.1, From.refl _ K, hh.2.2⟩))
  have hc2 : ∀ W, Pr B X W p q r.1 s → Turn (out B X) wb.drew W → _ := fun W hPW t' => hPW.snd (Nat.le_trans hBb t'.size) (fun k hk => Nat.lt_of_lt_of_le (hXlt k hk) t'.size) (r := r) (f := 62) (args := #[ptr q, trV t]) (fun L hR hL => by
    rw [hr]
    exact rarm62 hR hn hm t)
  rw [← hr]
  have hcell : ∀ W, Turn (out B X) wb W → W.cell? ⟨w.heap.size, 0, none⟩ = some (ptr p) ∧ W.cell? ⟨w.heap.size, 1, none⟩ = some (ptr q) ∧ W.cell? ⟨w.heap.size + 1, 5, none⟩ = some (.int .i64 t.when) ∧ W.cell? ⟨w.heap.size + 1, 6, none⟩ = some (.int .i64 t.kind) ∧ W.cell? ⟨w.heap.size + 1, 7, none⟩ = some (.bool t.done) := fun W t' => ⟨t'.keep x0 (fun e => e.2 hX0), t'.keep x1 (fun e => e.2 hX0), t'.keep x6 (fun e => e.2 hX1), t'.keep x7 (fun e => e.2 hX1), t'.keep x8 (fun e => e.2 hX1)⟩
  have HCE := shut hcell
  have HC1 := shut hc1
  have HC2 := shut hc2
  obtain ⟨tw, tk, td⟩ := t
  obtain ⟨r1, r2⟩ := r
  clear hcell hc1 hc2 hP1 hX0 hX1 hXge hX hob hws eS hr
  simp only at *
  unfold ptr strV opC trV at *
  go_enter Try.func25, Try.ntmps25
  go_wp2_with fail
  refine wp_region_noPanic ?_
  refine wp_region_held_drew (S := fun W => Turn (out B X) wb W) (by kernel_rfl) (Turn.refl _ wb).drew (fun hHeld => ?_)
  refine' wpAnyH_take (i := 0) (v := .pointer (some ⟨w.heap.size, 0, none⟩)) rfl (by kernel_rfl) (by kernel_rfl) (by kernel_rfl) (fun _ _ _ h => h) (Or.inl ⟨by kernel_rfl, fun W hW => ?y1⟩) hHeld ?r1
  · go_simp
  refine' wpAnyH_take (i := 1) (v := .pointer (some ⟨p, 0, none⟩)) rfl (by kernel_rfl) (by kernel_rfl) (by kernel_rfl) (fun _ _ _ h => h) (Or.inl ⟨by kernel_rfl, fun W hW => ?y2⟩) hHeld ?r2
  · have cc := (HCE.out W hW).1
    go_simp
  refine' wpAnyH_take (i := 2) (v := .pointer (some ⟨w.heap.size + 1, 5, none⟩)) rfl (by kernel_rfl) (by kernel_rfl) (by kernel_rfl) (fun _ _ _ h => h) (Or.inl ⟨by kernel_rfl, fun W hW => ?y3⟩) hHeld ?r3
  · go_simp
  refine' wpAnyH_take (i := 3) (v := .agg #[.int .i64 tw, .int .i64 tk, .bool td]) rfl (by kernel_rfl) (by kernel_rfl) (by kernel_rfl) (fun _ _ _ h => h) (Or.inl ⟨by kernel_rfl, fun W hW => ?y4⟩) hHeld ?r4
  · obtain ⟨_, _, c5, c6, c7⟩ := HCE.out W hW
    go_simp
  refine' wpAnyH_take (i := 6) (v := .pointer (some ⟨w.heap.size, 1, none⟩)) rfl (by kernel_rfl) (by kernel_rfl) (by kernel_rfl) (fun _ _ _ h => h) (Or.inl ⟨by kernel_rfl, fun W hW => ?y5⟩) hHeld ?r5
  · go_simp
  refine' wpAnyH_take (i := 7) (v := .pointer (some ⟨q, 0, none⟩)) rfl (by kernel_rfl) (by kernel_rfl) (by kernel_rfl) (fun _ _ _ h => h) (Or.inl ⟨by kernel_rfl, fun W hW => ?y6⟩) hHeld ?r6
  · have cc := (HCE.out W hW).2.1
    go_simp
  refine' wpAnyH_take (i := 8) (v := .pointer (some ⟨w.heap.size + 1, 5, none⟩)) rfl (by kernel_rfl) (by kernel_rfl) (by kernel_rfl) (fun _ _ _ h => h) (Or.inl ⟨by kernel_rfl, fun W hW => ?y7⟩) hHeld ?r7
  · go_simp
  refine' wpAnyH_take (i := 9) (v := .agg #[.int .i64 tw, .int .i64 tk, .bool td]) rfl (by kernel_rfl) (by kernel_rfl) (by kernel_rfl) (fun _ _ _ h => h) (Or.inl ⟨by kernel_rfl, fun W hW => ?y8⟩) hHeld ?r8
  · obtain ⟨_, _, c5, c6, c7⟩ := HCE.out W hW
    go_simp
  refine wpAnyH_ready (rs := [4]) (by kernel_rfl) (by simp) ?_
  refine AllReadyH.cons rfl (fun K hK => ?_) AllReadyH.nil
  go_simp
  refine HC1.out.mono ?_
  rintro e w1 ⟨rfl, hP2, t1⟩
  have S1 : Turn (out B X) wb w1 := ((Turn.refl no wb).drew.of_no).trans t1 (fun k _ e => e)
  have HP2 := shut hP2
  have HT1 := shut t1
  clear hP2 t1
  go_wp2_with fail
  refine hK.out _ _ S1 (fun hHeld => ?_)
  clear hK
  refine wpAnyH_ready (rs := [5]) (by kernel_rfl) (by simp) ?_
  refine AllReadyH.cons rfl (fun K hK => ?_) AllReadyH.nil
  go_simp
  refine (HNUM.out _ _).mono ?_
  rintro e w2 ⟨rfl, rfl⟩
  go_wp2_with fail
  refine hK.out _ _ S1 (fun hHeld => ?_)
  clear hK
  refine wpAnyH_ready (rs := [10]) (by kernel_rfl) (by simp) ?_
  refine AllReadyH.cons rfl (fun K hK => ?_) AllReadyH.nil
  go_simp
  refine (HC2.out _ HP2.out HT1.out).mono ?_
  rintro e w3 ⟨rfl, hP3, t3⟩
  have S3 : Turn (out B X) wb w3 := S1.trans t3 (fun k _ e => e)
  have HP3 := shut hP3
  clear hP3 t3
  go_wp2_with fail
  refine hK.out _ _ S3 (fun hHeld => ?_)
  clear hK
  refine wpAnyH_ready (rs := [11]) (by kernel_rfl) (by simp) ?_
  refine AllReadyH.cons rfl (fun K hK => ?_) AllReadyH.nil
  go_simp
  refine (HNUM.out _ _).mono ?_
  rintro e w4 ⟨rfl, rfl⟩
  go_wp2_with fail
  refine hK.out _ _ S3 (fun hHeld => ?_)
  clear hK
  refine' wpAnyH_take (i := 12) (v := .bool true) rfl (by kernel_rfl) (by kernel_rfl) (by kernel_rfl) (fun _ _ _ h => h) (Or.inl ⟨by kernel_rfl, fun W hW => ?y9⟩) hHeld ?r9
  · go_simp
  refine' wpAnyH_take (i := 13) (v := .bool true) rfl (by kernel_rfl) (by kernel_rfl) (by kernel_rfl) (fun _ _ _ h => h) (Or.inl ⟨by kernel_rfl, fun W hW => ?y10⟩) hHeld ?r10
  · go_simp
  refine wpAnyH_done (by kernel_rfl) ?_ _
  refine NoPanic.normal ?_
  go_wp2_with fail
  go_ret
  exact ⟨rfl, HP3.out.free HYX.out, (HTB.out.of_no (S := out B Y)).trans S3 (fun k _ e => ⟨e.1, fun y => e.2 (HYX.out k y)⟩)⟩
end
end Go.Proofs.Ytcdogciacchigab

-- Of the law: crashes; step: Crash.
namespace Go.Proofs.Ytcdogciacchigab
open Go.RowKit Go.Maps
set_option linter.unusedVariables false

/-- What a crash answers and leaves. -/
def crS (s : St) : St := if s.out then s else { s with off := true, out := true }
def crE (s : St) : Int := if s.out then 63 else 0
def crI (s : St) (keep : List Int) (junk : UInt8) : List Fi := if s.out then [] else crashL s.fs keep junk
section
variable {w : World} {p q : Nat} {K : Nat → Prop} {s : St}
theorem crash27_any (hk : Dk w p K s) (vk : Value) (keep : List Int) (hkeep : Vs w vk (keep.map iv)) (junk : UInt8) :
    Calls Try.prog 27 #[ptr p, vk, .int .u8 junk.toNat] w fun e w' => ∃ a n c, e = .returned (.tuple #[.agg #[.slice a n c], .int .i64 (crE s)]) ∧ Im w.heap.size w' (.slice a n c) (crI s keep junk) ∧ Dk w' p K (crS s) ∧ Turn K w w' := by
  cases ho : s.out with
  | true =>
    obtain ⟨a, c, e⟩ := hkeep.slice
    subst e
    refine (crash15_out hk ho a _ c _).mono ?_
    rintro e w' ⟨rfl, t⟩
    exact ⟨none, 0, 0, by simp [crE, ho], by simp only [crI, ho, if_true]; exact Im.nil _ _, by simp only [crS, ho, if_true]; exact hk.turn_no t, t.of_no⟩
  | false =>
    refine (crash15 hk ho vk keep hkeep junk).mono ?_
    rintro e w' ⟨v, rfl, h1, h2, h3⟩
    obtain ⟨a, c, rfl, _⟩ := h1.form
    exact ⟨a, _, c, by simp only [crE, ho]; rfl, by simp only [crI, ho]; exact h1, by simp only [crS, ho]; exact h2, h3⟩
theorem crash28_any (hk : Rk w q K s) (vk : Value) (keep : List Int) (hkeep : Vs w vk (keep.map iv)) (hkK : keep ≠ [] → ∀ g, vk.ownBlock = some g → ¬ K g) (junk : UInt8) :
    Calls Try.prog 28 #[ptr q, vk, .int .u8 junk.toNat] w fun e w' => ∃ a n c, e = .returned (.tuple #[.agg #[.slice a n c], .int .i64 (crE s)]) ∧ Im w.heap.size w' (.slice a n c) (crI s keep junk) ∧ Rk w' q K (crS s) ∧ Turn K w w' := by
  cases ho : s.out with
  | true =>
    obtain ⟨a, c, e⟩ := hkeep.slice
    subst e
    refine (rcrash28_out hk ho a _ c _).mono ?_
    rintro e w' ⟨rfl, t⟩
    exact ⟨none, 0, 0, by simp [crE, ho], by simp only [crI, ho, if_true]; exact Im.nil _ _, by simp only [crS, ho, if_true]; exact hk.turn_no t, t.of_no⟩
  | false =>
    refine (rcrash28 hk ho vk keep hkeep hkK junk).mono ?_
    rintro e w' ⟨v, rfl, h1, h2, h3⟩
    obtain ⟨a, c, rfl, _⟩ := h1.form
    exact ⟨a, _, c, by simp only [crE, ho]; rfl, by simp only [crI, ho]; exact h1, by simp only [crS, ho]; exact h2, h3⟩
end
theorem info3' : (Try.prog.info? 3).map (fun i => (i.zero, i.size, i.bytes)) = some (some (.int .i64 0), 1, 8) := by kernel_rfl
theorem Vs.src31 {w : World} {v : Value} {xs : List Int} (h : Vs w v (xs.map iv)) : Src Try.prog 1 31 v xs.length (xs.map iv) w := by
  rcases h with ⟨rfl, e⟩ | ⟨a, cap, rfl, _, _, h3⟩
  · have : xs = [] := by simpa using e
    subst this
    exact Src.ofNil w Try.underlying31 0
  · rw [List.length_map]
    refine Src.ofSlice w Try.underlying31 a xs.length cap (xs.map iv) (by simp) (fun j u hu => h3 j u hu) (fun x hx => by
      obtain ⟨y, _, rfl⟩ := List.mem_map.1 hx
      rfl)
theorem own_vs {w : World} {e : TypeId} {g n cap : Nat} {xs ys : List Value} (h : Own w e (.slice (some ⟨g, 0, none⟩) n cap) (xs ++ ys)) : Vs w (.slice (some ⟨g, 0, none⟩) xs.length cap) xs := by
  rcases h.shape with ⟨e1, _⟩ | ⟨g', cap', cur, e1, hg, h1, h2, _⟩
  · cases e1
  · cases e1
    exact Or.inr ⟨_, _, rfl, by simp at h1; omega, h2, fun j u hu => by
      have := h.cell j u (by rw [List.getElem?_append_left (List.getElem?_eq_some_iff.1 hu).1]; exact hu)
      rw [Addr.add_lit]
      simpa using this⟩
/-- The list of keeps, with two marks. -/
theorem keep2 (w : World) (v : Value) (keep : List Int) (h : Vs w v (keep.map iv)) (hl : keep.length ≤ 17592186043904) :
    ∃ a1 n1 c1 w1, (∀ ty, (Builtin.append_ #[31, 31] ty #[.slice none 0 0, v]).run Try.prog w = .ok (.slice a1 n1 c1) w1) ∧ Turn no w w1 ∧
      ∃ g c w2, (∀ ty, (Builtin.append_ #[31, 31] ty #[.slice a1 n1 c1, .slice (some ⟨w1.heap.size, 0, none⟩) 2 2]).run Try.prog (w1.alloc (.cells #[.int .i64 (-71), .int .i64 (-72)] 3)) = .ok (.slice (some ⟨g, 0, none⟩) (keep.length + 2) c) w2) ∧ Turn no w w2 ∧ w.heap.size ≤ g ∧ Own w2 3 (.slice (some ⟨g, 0, none⟩) (keep.length + 2) c) (keep.map iv ++ [iv (-71), iv (-72)]) := by
  obtain ⟨v1, w1, hr1, hO1, hG1, _⟩ := run_append_src (P := Try.prog) (t := 31) (tx := 31) (e := 3) Try.underlying31 info3' rfl 31 w _ [] (Own.nil w 3) v keep.length _ h.src31 (by simp; omega) (by simp only [maxLen]; simp; omega)
  have T1 : Turn no w w1 := hG1.turn.mono (fun k _ e => by cases e)
  have hf1 : ∀ g, v1.ownBlock = some g → w.heap.size ≤ g := hG1.fresh (fun g hg => by cases hg) (Nat.le_refl _)
  rw [List.nil_append] at hO1
  obtain ⟨a1, n1, c1, rfl⟩ : ∃ a n c, v1 = .slice a n c := by
    rcases hO1.shape with ⟨e, _⟩ | ⟨_, _, _, e, _⟩
    · exact ⟨_, _, _, e⟩
    · exact ⟨_, _, _, e⟩
  have T2 : Turn no w1 (w1.alloc (.cells #[.int .i64 (-71), .int .i64 (-72)] 3)) := (Turn.refl no w1).alloc _
  have hsrc : Src Try.prog 1 31 (.slice (some ⟨w1.heap.size, 0, none⟩) 2 2) 2 [iv (-71), iv (-72)] (w1.alloc (.cells #[.int .i64 (-71), .int .i64 (-72)] 3)) :=
    Src.ofSlice _ Try.underlying31 _ _ _ _ rfl (fun j x hx => by
      have := (Row.new w1 #[.int .i64 (-71), .int .i64 (-72)] 3).cell j x (by simpa [iv] using hx)
      simpa [Addr.add_lit] using this) (fun x hx => by
      simp at hx
      rcases hx with rfl | rfl <;> rfl)
  obtain ⟨v2, w2, hr2, hO2, hG2, _⟩ := run_append_src (P := Try.prog) (t := 31) (tx := 31) (e := 3) Try.underlying31 info3' rfl 31 _ _ _ (hO1.turn_no T2) _ 2 _ hsrc (by simp; omega) (by simp only [maxLen]; simp; omega)
  have hs1 := T1.size
  have hs2 := T2.size
  have hf2 : ∀ g, v2.ownBlock = some g → w.heap.size ≤ g := hG2.fresh hf1 (by omega)
  have TT : Turn no w w2 := (T1.then_no T2).trans hG2.turn (fun k hk q => by have := hf1 k q; omega)
  have hlen : (keep.map iv ++ [iv (-71), iv (-72)]).length = keep.length + 2 := by simp
  obtain ⟨g, c, hv2⟩ : ∃ g c, v2 = .slice (some ⟨g, 0, none⟩) (keep.length + 2) c := by
    rcases hO2.shape with ⟨_, q⟩ | ⟨g, cap, cur, e, _⟩
    · have := congrArg List.length q
      rw [hlen] at this
      simp at this
    · exact ⟨g, cap, by rw [e, hlen]⟩
  subst hv2
  exact ⟨a1, n1, c1, w1, fun ty => hr1, T1, g, c, w2, fun ty => hr2, TT, hf2 g rfl, hO2⟩

section
variable {B : Nat} {Y : Nat → Prop} {w : World} {p q : Nat} {s : St}
set_option maxRecDepth 100000 in
set_option maxHeartbeats 16000000 in
theorem crashes63 (h : Pr B Y w p q s s) (hB : B ≤ w.heap.size) (o : Opx) (ho : Ox B w o) (hkl : o.keep.length ≤ 17592186043904) :
    Calls Try.prog 63 #[.agg #[ptr p, ptr q], .agg (opC o)] w fun e w' => e = .returned (.bool true) ∧ Pr B Y w' p q (crS s) (crS s) ∧ Turn (out B Y) w w' := by
  obtain ⟨va, vc, hvs⟩ := ho.data.slice
  obtain ⟨ka, kc, hks⟩ := ho.keep.slice
  obtain ⟨kind, who, nm, vd, data, n, t, vk, keep, junk⟩ := o
  simp only [List.length_map] at *
  subst hvs hks
  obtain ⟨wb, hwb⟩ : ∃ wb, (w.alloc (.cells #[ptr p, ptr q] 55)).alloc (.cells (opC ⟨kind, who, nm, .slice va data.length vc, data, n, t, .slice ka keep.length kc, keep, junk⟩) 33) = wb := ⟨_, rfl⟩
  have TB : Turn no w wb := by rw [← hwb]; exact ((Turn.refl no w).alloc _).alloc _
  have rb2 : Row wb w.heap.size #[ptr p, ptr q] 55 := by rw [← hwb]; exact (Row.new w _ 55).alloc _
  have rb3 : Row wb (w.heap.size + 1) (opC ⟨kind, who, nm, .slice va data.length vc, data, n, t, .slice ka keep.length kc, keep, junk⟩) 33 := by rw [← hwb]; exact Row.newAt _ _ 33 _ (by simp)
  have hwbs : wb.heap.size = w.heap.size + 2 := by rw [← hwb]; simp
  obtain ⟨KD, L, hD, hR, hKL, hKB, hLB⟩ := h
  have hKlt := hD.klt
  have hLlt := hR.klt
  have hvk := ho.keep.turn_no TB
  simp only at hvk
  obtain ⟨a1, n1, c1, w1, hr1, T1, kg, kcap, w2, hr2, T2, hkg, hO2⟩ := keep2 wb _ keep hvk hkl
  have z : ∀ W, Turn (fun k => KD k ∨ L k) wb W → W.cell? ⟨w.heap.size, 0, none⟩ = some (ptr p) ∧ W.cell? ⟨w.heap.size, 1, none⟩ = some (ptr q) ∧ W.cell? ⟨w.heap.size + 1, 8, none⟩ = some (.slice ka keep.length kc) ∧ W.cell? ⟨w.heap.size + 1, 9, none⟩ = some (.int .u8 junk.toNat) := fun W t => by
    have n2 : ¬ (KD w.heap.size ∨ L w.heap.size) := fun e => by
      rcases e with e | e
      · have := hKlt _ e; omega
      · have := hLlt _ e; omega
    have n3 : ¬ (KD (w.heap.size + 1) ∨ L (w.heap.size + 1)) := fun e => by
      rcases e with e | e
      · have := hKlt _ e; omega
      · have := hLlt _ e; omega
    have q2 := rb2.turn t n2
    have q3 := rb3.turn t n3
    exact ⟨q2.cell 0 _ rfl, q2.cell 1 _ rfl, q3.cell 8 _ rfl, q3.cell 9 _ rfl⟩
  have Z := shut z
  have hnl : keep.length ≤ 9223372036854775807 := by omega
  have hcap : keep.length + 2 ≤ kcap := by
    rcases hO2.shape with ⟨e, _⟩ | ⟨_, cap, _, e, _, h1, _⟩
    · cases e
    · simp at e h1
      have := e.2
      omega
  have hcap' : (keep.length : Int) ≤ (kcap : Int) := by omega
  have hcap2 : ¬ (kcap : Int) < (keep.length : Int) := by omega
  have TB2 : Turn no w w2 := TB.then_no T2
  have hcrP : ∀ W, Turn no w2 W → _ := fun W t => crash27_any (hD.turn_no (TB2.then_no t)) (.slice (some ⟨kg, 0, none⟩) keep.length kcap) keep (by
    have := (own_vs hO2).turn_no t
    simpa using this) junk
  have hs2 := T2.size
  have HCP := shut hcrP
  have HD := shut hD
  have HR := shut hR
  have HKLT := shut hKlt
  have HLLT := shut hLlt
  have HO2 := shut hO2
  have HT2 := shut T2
  have HTB := shut TB
  have HTB2 := shut TB2
  have HO := shut ho
  have HFIN := shut (And.intro hKL (And.intro hKB hLB))
  have HWBS := shut hwbs
  have HKG := shut hkg
  have HR2 := shut hr2
  have HT1 := shut T1
  have HS2 := shut hs2
  have HNUM := shut num10
  obtain ⟨y0, y1, y2, y3⟩ := Z.out wb (Turn.refl _ _)
  have y2' := (Z.out w1 (T1.of_no)).2.2.1
  have y22 := (Z.out w2 (T2.of_no)).2.2.1
  clear z hcrP hD hR hKlt hLlt hO2 T2 TB TB2 ho hKL hKB hLB hwbs hkg hr2 T1 hs2 rb2 rb3 hvk hcap
  unfold ptr opC strV at *
  generalize hN2 : keep.length + 2 = N2 at *
  have HN2 := shut hN2
  clear hN2
  obtain ⟨SK, hSK⟩ : ∃ SK : Nat → Prop, SK = (fun k => KD k ∨ k = w2.heap.size) := ⟨_, rfl⟩
  have HSK := shut hSK
  clear hSK
  have hza : ∀ W, Turn SK w2 W → W.cell? ⟨w.heap.size, 0, none⟩ = some (.pointer (some ⟨p, 0, none⟩)) ∧ W.cell? ⟨w.heap.size + 1, 9, none⟩ = some (.int .u8 junk.toNat) := fun W t => by
    have n2 : ∀ k, k < w2.heap.size → ¬ KD k → ¬ SK k := fun k hk nk e => by
      rw [HSK.out] at e
      rcases e with e | e
      · exact nk e
      · omega
    obtain ⟨z0, _, _, z3⟩ := Z.out w2 (HT2.out.of_no)
    have hs := HT2.out.size
    have hws := HWBS.out
    exact ⟨t.keep z0 (n2 _ (by simp only; omega) (fun e => by have := HKLT.out _ e; simp only at this; omega)), t.keep z3 (n2 _ (by simp only; omega) (fun e => by have := HKLT.out _ e; simp only at this; omega))⟩
  have HZA := shut hza
  clear hza
  obtain ⟨ER, hER⟩ : ∃ ER, ER = crE s := ⟨_, rfl⟩
  have HER := shut hER
  clear hER
  have hKw : ∀ k, KD k → k < w2.heap.size := fun k hk => by have := HKLT.out k hk; have := HTB2.out.size; omega
  have HKW := shut hKw
  clear hKw
  go_enter Try.func63, Try.ntmps63
  go_upto_region 5 with (first | (at_builtin; refine wpList_append_run rfl _ _ (t := 31) (tx := 31) rfl _ _ rfl rfl (hr1 _) ?_; clear hr1) | (at_builtin; refine wpList_append_run rfl _ _ (t := 31) (tx := 31) rfl _ _ rfl rfl (HR2.out _) ?_))
  go_cut [7, 8] from 12 to 32 (fun c7 c8 wx => ∃ (ba : Nat) (va vn vc : _), c7 = .pointer (some ⟨ba, 0, none⟩) ∧ c8 = .int .i64 ER ∧ Shut (Row wx ba #[.slice va vn vc] 24 ∧ w2.heap.size ≤ ba ∧ Im w2.heap.size wx (.slice va vn vc) (crI s keep junk) ∧ Dk wx p KD (crS s) ∧ Turn KD w2 wx))
  case first =>
    refine wp_region_noPanic ?_
    refine wp_region_held_drew (S := fun W => Turn SK w2 W) (by kernel_rfl) (Turn.refl _ w2).drew (fun hHeld => ?_)
    refine' wpAnyH_take (i := 0) (v := .pointer (some ⟨w.heap.size, 0, none⟩)) rfl (by kernel_rfl) (by kernel_rfl) (by kernel_rfl) (fun _ _ _ h => h) (Or.inl ⟨by kernel_rfl, fun W hW => ?y1⟩) hHeld ?r1
    · go_simp
    refine' wpAnyH_take (i := 1) (v := .pointer (some ⟨p, 0, none⟩)) rfl (by kernel_rfl) (by kernel_rfl) (by kernel_rfl) (fun _ _ _ h => h) (Or.inl ⟨by kernel_rfl, fun W hW => ?y2⟩) hHeld ?r2
    · have z := (HZA.out W hW).1
      go_simp
    refine' wpAnyH_take (i := 2) (v := .slice (some ⟨kg, 0, none⟩) N2 kcap) rfl (by kernel_rfl) (by kernel_rfl) (by kernel_rfl) (fun _ _ _ h => h) (Or.inl ⟨by kernel_rfl, fun W hW => ?y3⟩) hHeld ?r3
    · go_simp
    refine' wpAnyH_take (i := 3) (v := .int .i64 keep.length) rfl (by kernel_rfl) (by kernel_rfl) (by kernel_rfl) (fun _ _ _ h => h) (Or.inl ⟨by kernel_rfl, fun W hW => ?y4⟩) hHeld ?r4
    · go_simp
    refine' wpAnyH_take (i := 4) (v := .slice (some ⟨kg, 0, none⟩) keep.length kcap) rfl (by kernel_rfl) (by kernel_rfl) (by kernel_rfl) (fun _ _ _ h => h) (Or.inl ⟨by kernel_rfl, fun W hW => ?y5⟩) hHeld ?r5
    · go_simp
    refine' wpAnyH_take (i := 5) (v := .pointer (some ⟨w.heap.size + 1, 9, none⟩)) rfl (by kernel_rfl) (by kernel_rfl) (by kernel_rfl) (fun _ _ _ h => h) (Or.inl ⟨by kernel_rfl, fun W hW => ?y6⟩) hHeld ?r6
    · go_simp
    refine' wpAnyH_take (i := 6) (v := .int .u8 junk.toNat) rfl (by kernel_rfl) (by kernel_rfl) (by kernel_rfl) (fun _ _ _ h => h) (Or.inl ⟨by kernel_rfl, fun W hW => ?y7⟩) hHeld ?r7
    · have z := (HZA.out W hW).2
      go_simp
    refine wpAnyH_ready (rs := [7, 11]) (by kernel_rfl) (by simp) ?_
    refine AllReadyH.cons rfl (fun KD' hK => ?_) (AllReadyH.cons rfl (fun KD' hK => ?_) AllReadyH.nil)
    · go_simp
      refine (HCP.out _ ((Turn.refl no w2).drew)).mono ?_
      rintro e w3 ⟨ia, in', ic, rfl, hI, hDk, t3⟩
      rw [← HER.out]
      have S3 : Turn KD w2 w3 := ((Turn.refl no w2).drew.of_no).trans t3 (fun k _ e => e)
      have HI := shut hI
      have HDK := shut hDk
      have HS3 := shut S3
      clear hI hDk t3
      go_wp2_with fail
      refine hK.out _ _ (S3.mono (fun k _ e => by rw [HSK.out]; exact Or.inl e)) (fun hHeld => ?_)
      clear hK
      refine' wpAnyH_take (i := 8) (v := .tuple #[.agg #[.slice ia in' ic], .int .i64 ER]) rfl (by kernel_rfl) (by kernel_rfl) (by kernel_rfl) (fun _ _ _ h => h) (Or.inl ⟨by kernel_rfl, fun W hW => ?y8⟩) hHeld ?r8
      · go_simp
      refine' wpAnyH_take (i := 9) (v := .agg #[.slice ia in' ic]) rfl (by kernel_rfl) (by kernel_rfl) (by kernel_rfl) (fun _ _ _ h => h) (Or.inl ⟨by kernel_rfl, fun W hW => ?y9⟩) hHeld ?r9
      · go_simp
      refine' wpAnyH_take (i := 10) (v := .int .i64 ER) rfl (by kernel_rfl) (by kernel_rfl) (by kernel_rfl) (fun _ _ _ h => h) (Or.inl ⟨by kernel_rfl, fun W hW => ?y10⟩) hHeld ?r10
      · go_simp
      refine wpAnyH_ready (rs := [11]) (by kernel_rfl) (by simp) ?_
      refine AllReadyH.cons rfl (fun K hK => ?_) AllReadyH.nil
      go_simp
      refine hK.out _ _ ((HS3.out.alloc _).mono (fun k _ e => by rw [HSK.out]; exact Or.inl e)) (fun hHeld => ?_)
      clear hK
      have FIN : Shut (Row (w3.alloc (.cells #[.slice ia in' ic] 24)) w3.heap.size #[.slice ia in' ic] 24 ∧ w2.heap.size ≤ w3.heap.size ∧ Im w2.heap.size (w3.alloc (.cells #[.slice ia in' ic] 24)) (.slice ia in' ic) (crI s keep junk) ∧ Dk (w3.alloc (.cells #[.slice ia in' ic] 24)) p KD (crS s) ∧ Turn KD w2 (w3.alloc (.cells #[.slice ia in' ic] 24))) :=
        ⟨Row.new w3 _ 24, HS3.out.size, HI.out.turn_no ((Turn.refl no w3).alloc _), HDK.out.turn_no ((Turn.refl no w3).alloc _), HS3.out.alloc _⟩
      refine wpAnyH_ready (rs := [12]) (by kernel_rfl) (by simp) ?_
      refine AllReadyH.cons rfl (fun K hK => ?_) AllReadyH.nil
      go_simp
      refine hK.out _ _ ((HS3.out.alloc _).mono (fun k _ e => by rw [HSK.out]; exact Or.inl e)) (fun hHeld => ?_)
      clear hK
      refine' wpAnyH_take (i := 13) (v := .int .i64 ER) rfl (by kernel_rfl) (by kernel_rfl) (by kernel_rfl) (fun _ _ _ h => h) (Or.inl ⟨by kernel_rfl, fun W hW => ?y11⟩) hHeld ?r11
      · go_simp
      refine wpAnyH_done (by kernel_rfl) ?_ _
      refine NoPanic.normal ?_
      go_wp2_with fail
      go_meet
      case rel => exact ⟨w3.heap.size, ia, in', ic, rfl, rfl, FIN⟩
    · go_simp
      refine hK.out _ _ ((Turn.refl _ w2).alloc _).drew (fun hHeld => ?_)
      clear hK
      refine wpAnyH_ready (rs := [7]) (by kernel_rfl) (by simp) ?_
      refine AllReadyH.cons rfl (fun K hK => ?_) AllReadyH.nil
      go_simp
      refine (HCP.out _ (((Turn.refl no w2).alloc _).drew)).mono ?_
      rintro e w3 ⟨ia, in', ic, rfl, hI, hDk, t3⟩
      rw [← HER.out]
      have r3 : Row w3 w2.heap.size #[.slice none 0 0] 24 := (((Row.new w2 #[.slice none 0 0] 24).turn ((Turn.refl no _).drew) (fun e => e))).turn t3 (fun e => by have := HKW.out _ e; omega)
      have S3 : Turn KD w2 w3 := ((((Turn.refl no w2).alloc (.cells #[.slice none 0 0] 24)).drew).of_no (S := KD)).trans t3 (fun k _ e => e)
      have d0 := r3.cell 0 _ rfl
      have f0 := r3.frozen 0
      have HI := shut hI
      have HDK := shut hDk
      have HS3 := shut S3
      have HR3 := shut r3
      clear hI hDk t3 r3
      go_wp2_with fail
      refine hK.out _ _ (HS3.out.mono (fun k _ e => by rw [HSK.out]; exact Or.inl e)) (fun hHeld => ?_)
      clear hK
      refine' wpAnyH_take (i := 8) (v := .tuple #[.agg #[.slice ia in' ic], .int .i64 ER]) rfl (by kernel_rfl) (by kernel_rfl) (by kernel_rfl) (fun _ _ _ h => h) (Or.inl ⟨by kernel_rfl, fun W hW => ?y12⟩) hHeld ?r12
      · go_simp
      refine' wpAnyH_take (i := 9) (v := .agg #[.slice ia in' ic]) rfl (by kernel_rfl) (by kernel_rfl) (by kernel_rfl) (fun _ _ _ h => h) (Or.inl ⟨by kernel_rfl, fun W hW => ?y13⟩) hHeld ?r13
      · go_simp
      refine' wpAnyH_take (i := 10) (v := .int .i64 ER) rfl (by kernel_rfl) (by kernel_rfl) (by kernel_rfl) (fun _ _ _ h => h) (Or.inl ⟨by kernel_rfl, fun W hW => ?y14⟩) hHeld ?r14
      · go_simp
      have tS : Turn (fun k => k = w2.heap.size) w3 (w3.setCell ⟨w2.heap.size, 0, none⟩ (.slice ia in' ic)) := setTurn w3 w2.heap.size 0 _
      have FIN : Shut (Row (w3.setCell ⟨w2.heap.size, 0, none⟩ (.slice ia in' ic)) w2.heap.size #[.slice ia in' ic] 24 ∧ w2.heap.size ≤ w2.heap.size ∧ Im w2.heap.size (w3.setCell ⟨w2.heap.size, 0, none⟩ (.slice ia in' ic)) (.slice ia in' ic) (crI s keep junk) ∧ Dk (w3.setCell ⟨w2.heap.size, 0, none⟩ (.slice ia in' ic)) p KD (crS s) ∧ Turn KD w2 (w3.setCell ⟨w2.heap.size, 0, none⟩ (.slice ia in' ic))) := by
        obtain ⟨vs, i1, i2, i3, i4⟩ := HI.out.other HR3.out 0 (.slice ia in' ic)
        have hsz : w2.heap.size ≤ (w2.alloc (.cells #[.slice none 0 0] 24)).drew.heap.size := ((Turn.refl no w2).alloc _).drew.size
        exact ⟨HR3.out.set 0 _, Nat.le_refl _, ⟨vs, i1, i2, fun g hg => Nat.le_trans hsz (i3 g hg), fun j f u hf hu => ⟨(i4 j f u hf hu).1, fun g hg => Nat.le_trans hsz ((i4 j f u hf hu).2 g hg)⟩⟩, HDK.out.turn tS (fun k hk e => by have := HKW.out k hk; omega), HS3.out.trans tS (fun k hk e => by omega)⟩
      clear tS
      refine wpAnyH_ready (rs := [12]) (by kernel_rfl) (by simp) ?_
      refine AllReadyH.cons rfl (fun K hK => ?_) AllReadyH.nil
      go_simp
      refine hK.out _ _ (Turn.setCell (HS3.out.mono (fun k _ e => by rw [HSK.out]; exact Or.inl e)) (p := ⟨w2.heap.size, 0, none⟩) (fun _ => by rw [HSK.out]; exact Or.inr rfl) _) (fun hHeld => ?_)
      clear hK
      refine' wpAnyH_take (i := 13) (v := .int .i64 ER) rfl (by kernel_rfl) (by kernel_rfl) (by kernel_rfl) (fun _ _ _ h => h) (Or.inl ⟨by kernel_rfl, fun W hW => ?y15⟩) hHeld ?r15
      · go_simp
      refine wpAnyH_done (by kernel_rfl) ?_ _
      refine NoPanic.normal ?_
      go_wp2_with fail
      go_meet
      case rel => exact ⟨w2.heap.size, ia, in', ic, rfl, rfl, FIN⟩
  case rest =>
    obtain ⟨ba, va', vn', vc', rfl, rfl, HX⟩ := hcut
    obtain ⟨X1, X2, X3, X4, X5⟩ := HX.out
    obtain ⟨hKL, hKB, hLB⟩ := HFIN.out
    have T0c : Turn KD w wc := (HTB2.out.of_no (S := KD)).trans X5 (fun k _ e => e)
    have hRc : Rk wc q L s := HR.out.turn T0c (fun k hk e => hKL k e hk)
    have hkc : Vs wc (.slice ka keep.length kc) (keep.map iv) := (HO.out.turn T0c (fun k hk => (hKB k hk).1)).keep
    have hcr := crash28_any hRc (.slice ka keep.length kc) keep hkc (fun hne g hg hl => by
      have h1 := HO.out.kold hne g hg
      have h2 := (hLB g hl).1
      omega) junk
    rw [← HER.out] at hcr
    obtain ⟨z0, z1, z2, z3⟩ := Z.out wc ((HT2.out.of_no (S := fun k => KD k ∨ L k)).trans X5 (fun k _ e => Or.inl e))
    have HX1 := shut X1
    have HT0C := shut T0c
    clear X1 X2 X3 X4 X5 hKL hKB hLB T0c hRc hkc
    unfold ptr at *
    go_wp2_with fail
    refine hcr.mono ?_
    clear hcr
    rintro e w4 ⟨ja, jn, jc, rfl, hI4, hR4, t4⟩
    obtain ⟨X1, X2, X3, X4, X5⟩ := HX.out
    obtain ⟨hKL, hKB, hLB⟩ := HFIN.out
    obtain ⟨w5, hw5⟩ : ∃ w5, w4.alloc (.cells #[.slice ja jn jc] 24) = w5 := ⟨_, rfl⟩
    obtain ⟨bb, hbb⟩ : ∃ bb, w4.heap.size = bb := ⟨_, rfl⟩
    have T45 : Turn no w4 w5 := by rw [← hw5]; exact (Turn.refl no w4).alloc _
    have T25 : Turn (fun k => KD k ∨ L k) w2 w5 := ((X5.mono (fun k _ e => Or.inl e)).trans t4 (fun k _ e => Or.inr e)).then_no T45
    have Tc5 : Turn L wc w5 := t4.then_no T45
    have rbb : Row w5 bb #[.slice ja jn jc] 24 := by rw [← hw5]; exact Row.newAt _ _ _ _ hbb.symm
    have hL2 : ∀ k, L k → k < w2.heap.size := fun k hk => by have := HLLT.out k hk; have := HTB2.out.size; omega
    have rba : Row w5 ba #[.slice va' vn' vc'] 24 := X1.turn Tc5 (fun e => by have := hL2 ba e; omega)
    have hIa : Im w2.heap.size w5 (.slice va' vn' vc') (crI s keep junk) := X3.turn Tc5 (fun k e => hL2 k e)
    have hIb := hI4.turn_no T45
    have hD5 : Dk w5 p KD (crS s) := X4.turn Tc5 (fun k hk e => hKL k hk e)
    have hR5 : Rk w5 q L (crS s) := hR4.turn_no T45
    have hO5 : Own w5 3 (.slice (some ⟨kg, 0, none⟩) N2 kcap) (keep.map iv ++ [iv (-71), iv (-72)]) := HO2.out.turn T25 (fun g hg e => by
      cases hg
      have := HKG.out
      rcases e with e | e
      · have := HKLT.out kg e; have := HWBS.out; omega
      · have := HLLT.out kg e; have := HWBS.out; omega)
    have hN2 := HN2.out
    have m0 : w5.cell? ⟨kg, keep.length, none⟩ = some (.int .i64 (-71)) := hO5.cell keep.length _ (by simp [iv])
    have m1 : w5.cell? ⟨kg, keep.length + 1, none⟩ = some (.int .i64 (-72)) := hO5.cell (keep.length + 1) _ (by simp [iv])
    have hb0 : (keep.length : Int) < (N2 : Int) := by omega
    have hb1 : ((keep.length + 1 : Nat) : Int) < (N2 : Int) := by omega
    have hb1' : (keep.length : Int) + 1 < (N2 : Int) := by omega
    have hw1 : IntKind.i64.wrap ((keep.length : Int) + 1) = ((keep.length + 1 : Nat) : Int) := by rw [wrap_i64 (by omega) (by omega)]; omega
    have HIA := shut hIa
    have HIB := shut hIb
    have HD5 := shut hD5
    have HR5 := shut hR5
    have HO5 := shut hO5
    have HRBA := shut rba
    have HRBB := shut rbb
    have HT25 := shut T25
    have HW5 : Shut (∀ k, KD k ∨ L k ∨ k = w.heap.size + 1 ∨ k = ba ∨ k = bb → k ≠ kg) := fun k hk e => by
      have e1 := HKG.out
      have e2 := HWBS.out
      have e3 : kg < w2.heap.size := HO2.out.lt rfl
      have e4 := hO5.obj (g := kg) rfl
      rcases hk with h | h | h | h | h
      · have := HKLT.out k h; omega
      · have := HLLT.out k h; omega
      · omega
      · omega
      · subst h
        obtain ⟨c1, ec⟩ := e4
        rw [← e] at ec
        exact absurd (tag_ne rbb ec) (by decide)
    clear X1 X2 X3 X4 X5 hKL hKB hLB T45 T25 Tc5 rbb hL2 rba hIa hIb hD5 hR5 hO5 hN2 hI4 hR4 t4
    obtain ⟨ys0, hys0⟩ : ∃ ys0, ys0 = keep.map iv ++ [iv (-71), iv (-72)] := ⟨_, rfl⟩
    have HO6 : Shut (Own w5 3 (.slice (some ⟨kg, 0, none⟩) N2 kcap) ys0) := by rw [hys0]; exact HO5.out
    have HY0 : Shut (∀ j, 0 ≤ j → j < keep.length → ys0[j]? = some (iv (keep.getD j 0))) := fun j _ hj => by
      rw [hys0, List.getElem?_append_left (by simpa using hj)]
      simp [List.getD_eq_getElem?_getD, hj]
    clear hys0
    unfold ptr at *
    go_wp2_with fail
    go_loopw [11] (fun x wr => ∃ (i : Nat) (ys : List Value), i ≤ keep.length ∧ x = .int .i64 i ∧ Shut (Own wr 3 (.slice (some ⟨kg, 0, none⟩) N2 kcap) ys) ∧ Shut (∀ j, i ≤ j → j < keep.length → ys[j]? = some (iv (keep.getD j 0))) ∧ Shut (Turn (fun k => k = kg) w5 wr)) (fun x _ => keep.length - (intOf x).toNat)
    case atStart => exact ⟨0, ys0, Nat.zero_le _, rfl, HO6, HY0, Turn.refl _ _⟩
    case round =>
      obtain ⟨i, ys, hi, rfl, HOY, HYS, HT5⟩ := hrel
      obtain ⟨hKL, hKB, hLB⟩ := HFIN.out
      have Twr : Turn (fun k => KD k ∨ L k ∨ wb.heap.size ≤ k) w wr := ((HTB2.out.of_no (S := fun k => KD k ∨ L k ∨ wb.heap.size ≤ k)).trans HT25.out (fun k _ e => by
        rcases e with e | e
        · exact Or.inl e
        · exact Or.inr (Or.inl e))).trans HT5.out (fun k _ e => by have := HKG.out; exact Or.inr (Or.inr (by omega)))
      by_cases hlt : i < keep.length
      · have hlt' : (i : Int) < (keep.length : Int) := by omega
        have hlt2 : (i : Int) < (N2 : Int) := by have := HN2.out; omega
        obtain ⟨KV, hKV⟩ : ∃ KV, keep.getD i 0 = KV := ⟨_, rfl⟩
        have hOx := HO.out.turn Twr (fun k hk => by
          rcases hk with e | e | e
          · exact (hKB k e).1
          · exact (hLB k e).1
          · have := HWBS.out; omega)
        obtain ⟨kb', ko, kcap', hkv, hkc', hkcell⟩ := hOx.keep.at (by simp; omega)
        simp only [List.length_map] at hkv
        have hka : ka = some ⟨kb', ko, none⟩ := by simp at hkv; exact hkv.1
        subst hka
        have hcc := hkcell i (iv KV) (by rw [← hKV]; simp [List.getD_eq_getElem?_getD, hlt])
        have hcy := HOY.out.cell i _ (HYS.out i (Nat.le_refl _) hlt)
        rw [hKV] at hcy
        have z8 := (Z.out w5 ((HT2.out.of_no (S := fun k => KD k ∨ L k)).trans HT25.out (fun k _ e => e))).2.2.1
        have z9 := HT5.out.keep z8 (fun e => HW5.out _ (Or.inr (Or.inr (Or.inl rfl))) e)
        have hO9 : ∀ n, Own ((wr.drewN n).setCell ⟨kg, i, none⟩ (.int .i64 9)) 3 (.slice (some ⟨kg, 0, none⟩) N2 kcap) (ys.set i (iv 9)) := fun n => (HOY.out.turn_no ((Turn.refl no wr).drewN n)).setAt i (iv 9)
        have hcd : ∀ n, (wr.drewN n).cell? ⟨kg, i, none⟩ = some (.int .i64 KV) := fun n => ((Turn.refl no wr).drewN n).keep hcy (fun e => e)
        have hfd : ∀ n, (wr.drewN n).frozen? ⟨kg, i, none⟩ = false := fun n => (HOY.out.turn_no ((Turn.refl no wr).drewN n)).frozen i
        have HO9 := shut hO9
        have HYS9 : Shut (∀ j, i + 1 ≤ j → j < keep.length → (ys.set i (iv 9))[j]? = some (iv (keep.getD j 0))) := fun j hj hjl => by rw [List.getElem?_set_ne (by omega)]; exact HYS.out j (by omega) hjl
        have HT9 : ∀ n, Shut (Turn (fun k => k = kg) w5 ((wr.drewN n).setCell ⟨kg, i, none⟩ (.int .i64 9))) := fun n => (HT5.out.drewN n).setCell (p := ⟨kg, i, none⟩) (fun _ => rfl) _
        have HCD := shut hcd
        have HFD := shut hfd
        clear hO9 hcd hfd hkcell hkc' hkv hOx Twr hKL hKB hLB hKV z8
        unfold iv at hcc hcy
        go_wp2_with fail
        go_quiet (fail)
        have c9 := HCD.out nq
        have f9 := HFD.out nq
        go_wp2_with fail
        go_roundw
        case rel => exact ⟨i + 1, _, by omega, by go_num, HO9.out nq, HYS9, HT9 nq⟩
        case measure => simp [intOf]; omega
      · have hlt' : ¬ (i : Int) < (keep.length : Int) := by omega
        have ra := HRBA.out.turn HT5.out (fun e => HW5.out _ (Or.inr (Or.inr (Or.inr (Or.inl rfl)))) e)
        have rb := HRBB.out.turn HT5.out (fun e => HW5.out _ (Or.inr (Or.inr (Or.inr (Or.inr rfl)))) e)
        have ca := ra.cell 0 _ rfl
        have cb := rb.cell 0 _ rfl
        have hia : Im w2.heap.size wr (.slice va' vn' vc') (crI s keep junk) := by
          obtain ⟨vs, i1, i2, i3, i4⟩ := HIA.out
          have e3 : kg < w2.heap.size := HO2.out.lt rfl
          exact ⟨vs, i1, i2.turn HT5.out (fun g hg e => by have := i3 g hg; omega), i3, fun j f u hf hu => ⟨(i4 j f u hf hu).1.turn HT5.out (fun g hg e => by have := (i4 j f u hf hu).2 g hg; omega), (i4 j f u hf hu).2⟩⟩
        have hib : Im wc.heap.size wr (.slice ja jn jc) (crI s keep junk) := by
          obtain ⟨vs, i1, i2, i3, i4⟩ := HIB.out
          have e3 : kg < w2.heap.size := HO2.out.lt rfl
          have e4 := HX.out.2.2.2.2.size
          exact ⟨vs, i1, i2.turn HT5.out (fun g hg e => by have := i3 g hg; omega), i3, fun j f u hf hu => ⟨(i4 j f u hf hu).1.turn HT5.out (fun g hg e => by have := (i4 j f u hf hu).2 g hg; omega), (i4 j f u hf hu).2⟩⟩
        have hsi := sameImage27 hia hib
        have HDF := shut (HD5.out.turn HT5.out (fun k hk e => HW5.out k (Or.inl hk) e))
        have HRF := shut (HR5.out.turn HT5.out (fun k hk e => HW5.out k (Or.inr (Or.inl hk)) e))
        have HTF : Shut (Turn (out B Y) w wr) := ((HTB2.out.of_no (S := out B Y)).trans HT25.out (fun k _ e => by
          rcases e with e | e
          · exact hKB k e
          · exact hLB k e)).trans HT5.out (fun k hk e => by have := HKG.out; have := HWBS.out; omega)
        have HFN := shut (And.intro hKL (And.intro hKB hLB))
        clear hia hib ra rb hKL hKB hLB Twr
        go_wp2_with fail
        refine (HNUM.out _ _).mono ?_
        rintro e w' ⟨rfl, rfl⟩
        go_wp2_with fail
        refine (HNUM.out _ _).mono ?_
        rintro e w' ⟨rfl, rfl⟩
        go_wp2_with fail
        refine hsi.mono ?_
        rintro e w7 ⟨rfl, t7⟩
        go_wp2_with fail
        go_ret
        exact ⟨rfl, ⟨KD, L, HDF.out.turn_no t7, HRF.out.turn_no t7, HFN.out.1, HFN.out.2.1, HFN.out.2.2⟩, HTF.out.then_no t7⟩
end
end Go.Proofs.Ytcdogciacchigab

-- step, whole.
namespace Go.Proofs.Ytcdogciacchigab
open Go.RowKit Go.Maps
set_option linter.unusedVariables false

section
variable {B : Nat} {Y : Nat → Prop} {w : World} {p q : Nat} {s : St}
set_option maxRecDepth 100000 in
set_option maxHeartbeats 8000000 in
theorem step12 (h : Pr B Y w p q s s) (hB : B ≤ w.heap.size) (hY : ∀ k, Y k → k < w.heap.size) (o : Opx) (ho : Ox B w o) (hkl : o.keep.length ≤ 17592186043904) (hk : o.kind = 12) :
    Calls Try.prog 25 #[.agg #[ptr p, ptr q], .agg (opC o)] w fun e w' => e = .returned (.bool true) ∧ Pr B Y w' p q (crS s) (crS s) ∧ Turn (out B Y) w w' := by
  have TB : Turn no w ((w.alloc (.cells #[ptr p, ptr q] 55)).alloc (.cells (opC o) 33)) := ((Turn.refl no w).alloc _).alloc _
  have rb2 : Row ((w.alloc (.cells #[ptr p, ptr q] 55)).alloc (.cells (opC o) 33)) w.heap.size #[ptr p, ptr q] 55 := (Row.new w _ 55).alloc _
  have rb3 : Row ((w.alloc (.cells #[ptr p, ptr q] 55)).alloc (.cells (opC o) 33)) (w.heap.size + 1) (opC o) 33 := Row.newAt _ _ 33 _ (by simp)
  obtain ⟨va, vc, hvs⟩ := ho.data.slice
  obtain ⟨ka, kn, kc, hks⟩ : ∃ ka kn kc, o.vk = .slice ka kn kc := by
    obtain ⟨a, c, e⟩ := ho.keep.slice
    exact ⟨_, _, _, e⟩
  obtain ⟨kind, who, nm, vd, data, n, t, vk, keep, junk⟩ := o
  simp only at *
  subst hvs hks
  have hnm := ho.nm
  simp only at hnm
  have hob := ho.turn_no TB
  generalize hwb : (w.alloc (.cells #[ptr p, ptr q] 55)).alloc (.cells (opC ⟨kind, who, nm, .slice va data.length vc, data, n, t, .slice ka kn kc, keep, junk⟩) 33) = wb at *
  have hcells : ∀ W : World, Turn no wb W → W.cell? ⟨w.heap.size, 0, none⟩ = some (ptr p) ∧ W.cell? ⟨w.heap.size, 1, none⟩ = some (ptr q) ∧ W.cell? ⟨w.heap.size + 1, 0, none⟩ = some (.int .i64 kind) ∧ W.cell? ⟨w.heap.size + 1, 2, none⟩ = some (strV nm) := fun W t => by
    have r2 := rb2.turn t (fun q => q)
    have r3 := rb3.turn t (fun q => q)
    exact ⟨r2.cell 0 _ rfl, r2.cell 1 _ rfl, r3.cell 0 _ rfl, r3.cell 2 _ rfl⟩
  have HC := shut hcells
  have hP := h.turn_no TB
  have HP := shut hP
  have HTB := shut TB
  have x3 := rb3.cell 1 _ rfl
  have x4 := rb3.cell 3 _ rfl
  have x5 := rb3.cell 4 _ rfl
  have x6 := rb3.cell 5 _ rfl
  have x7 := rb3.cell 6 _ rfl
  have x8 := rb3.cell 7 _ rfl
  have x9 := rb3.cell 8 _ rfl
  have x10 := rb3.cell 9 _ rfl
  have HNUM := shut num10
  have hBb : B ≤ wb.heap.size := Nat.le_trans hB TB.size
  obtain ⟨x0, x1, x2, xn⟩ := HC.out wb (Turn.refl _ _)
  clear hcells h ho rb2 rb3 TB hP
  have hwr := crashes63 HP.out hBb _ hob hkl
  have hwr2 : Calls Try.prog 63 #[.agg #[ptr p, ptr q], .agg (opC ⟨kind, who, nm, .slice va data.length vc, data, n, t, .slice ka kn kc, keep, junk⟩)] wb fun e w' => e = .returned (.bool true) ∧ Pr B Y w' p q (crS s) (crS s) ∧ Turn (out B Y) w w' := hwr.mono (fun e w' hh => ⟨hh.1, hh.2.1, (HTB.out.of_no).trans hh.2.2 (fun _ _ q => q)⟩)
  clear hwr hob
  unfold ptr strV opC at *
  subst hk
  go_enter Try.func25, Try.ntmps25
  go_wp2_with fail
  refine hwr2.mono ?_
  rintro e w1 ⟨rfl, hP1, hT1⟩
  go_wp2_with fail
  go_ret
  exact ⟨rfl, hP1, hT1⟩

/-- What a step leaves. -/
def stS (s : St) (o : Opx) : St := if o.kind = 12 then crS s else (doS s o).1
theorem step_any (h : Pr B Y w p q s s) (hB : B ≤ w.heap.size) (hY : ∀ k, Y k → k < w.heap.size) (hn : s.n < 4611686018427387904) (hm : s.m < 3518437208780) (o : Opx) (ho : Ox B w o) (hdl : o.data.length ≤ 140737488351232) (hkl : o.keep.length ≤ 17592186043904) :
    Calls Try.prog 25 #[.agg #[ptr p, ptr q], .agg (opC o)] w fun e w' => e = .returned (.bool true) ∧ Pr B Y w' p q (stS s o) (stS s o) ∧ Turn (out B Y) w w' := by
  by_cases h12 : o.kind = 12
  · have e : stS s o = crS s := by simp [stS, h12]
    rw [e]
    exact step12 h hB hY o ho hkl h12
  have e : stS s o = (doS s o).1 := by simp [stS, h12]
  rw [e]
  by_cases hw : o.kind = 1 ∨ o.kind = 2 ∨ o.kind = 3 ∨ o.kind = 4 ∨ o.kind = 5
  · exact stepW h hB hY hn hm o ho hdl hw
  by_cases h11 : o.kind = 11
  · exact step11 h hB hY hn hm o ho h11
  have e2 : (doS s o).1 = s := by
    unfold doS
    simp only [h11, if_false]
    rw [if_neg (by omega), if_neg (by omega), if_neg (by omega), if_neg (by omega), if_neg (by omega)]
  rw [e2]
  by_cases h6 : o.kind = 6
  · exact step6 h hB hY o ho h6
  by_cases h7 : o.kind = 7
  · exact step7 h hB hY o ho h7
  by_cases h8 : o.kind = 8
  · exact step8 h hB hY o ho h8
  by_cases h9 : o.kind = 9
  · exact step9 h hB hY o ho h9
  by_cases h10 : o.kind = 10
  · exact step10 h hB hY o ho h10
  exact stepN h hB hY o ho (by omega)
end
theorem numb_bounds (s : St) (l : List Pf) : (numb s l).1.n ≤ s.n + 1 ∧ (numb s l).1.m = s.m := by
  unfold numb
  dsimp only
  split
  · exact ⟨Nat.le_refl _, rfl⟩
  · split
    · exact ⟨Nat.le_refl _, rfl⟩
    · exact ⟨Nat.le_refl _, rfl⟩
theorem st_bounds (s : St) (o : Opx) : (stS s o).n ≤ s.n + 1 ∧ (stS s o).m ≤ s.m + 1 := by
  unfold stS
  split
  · unfold crS
    split
    · exact ⟨Nat.le_succ _, Nat.le_succ _⟩
    · exact ⟨Nat.le_succ _, Nat.le_succ _⟩
  by_cases h : o.kind = 11
  · have : doS s o = armS s o.t := by simp [doS, h]
    rw [this]
    unfold armS
    split
    · exact ⟨Nat.le_succ _, Nat.le_succ _⟩
    · split
      · exact ⟨Nat.le_succ _, Nat.le_refl _⟩
      · exact ⟨Nat.le_succ _, Nat.le_succ _⟩
  · rw [do_plan s o h]
    split
    · rename_i l _
      obtain ⟨a, b⟩ := numb_bounds s l
      exact ⟨a, by omega⟩
    · exact ⟨Nat.le_succ _, Nat.le_succ _⟩
end Go.Proofs.Ytcdogciacchigab
