/- Append, Sync, Remove. -/
import Derived.Test.YtcdogciacchigabM7
import Derived.Test.YtcdogciacchigabM4b
import Derived.Test.YtcdogciacchigabM4c
import Derived.Test.YtcdogciacchigabM4d
import Derived.Test.YtcdogciacchigabM4e
namespace Go.Proofs.Ytcdogciacchigab
open Go.RowKit Go.Maps
set_option linter.unusedVariables false

def appL (l : List Pf) (nm : Nm) (b : List UInt8) : List Pf := putF ⟨nm, (fileOf l nm).bs ++ b, (fileOf l nm).sy⟩ l
def appS (s : St) (nm : Nm) (b : List UInt8) : St × Int :=
  if asked s nm ≠ 0 then (s, asked s nm) else if fitsB s nm b.length = false then (s, 62) else numb s (appL s.fs nm b)
def syncS (s : St) (nm : Nm) : St × Int :=
  if foundE s nm ≠ 0 then (s, foundE s nm) else numb s (putF ⟨nm, (fileOf s.fs nm).bs, (fileOf s.fs nm).bs.length⟩ s.fs)
def remS (s : St) (nm : Nm) : St × Int :=
  if foundE s nm ≠ 0 then (s, foundE s nm) else numb s (dropF nm s.fs)
def replS (s : St) (nm : Nm) (b : List UInt8) : St × Int :=
  if asked s nm ≠ 0 then (s, asked s nm) else if fitsB s nm ((b.length : Int) - (lenF nm s.fs : Int)) = false then (s, 62) else numb s (putF ⟨nm, b, b.length⟩ s.fs)
def cutS (s : St) (nm : Nm) (n : Int) : St × Int :=
  if foundE s nm ≠ 0 then (s, foundE s nm) else if n < 0 ∨ (lenF nm s.fs : Int) < n then (s, 2) else numb s (putF ⟨nm, (fileOf s.fs nm).bs.take n.toNat, n.toNat⟩ s.fs)

/-- What a call answers, and what it leaves. -/
def Ans (w : World) (p : Nat) (K : Nat → Prop) (r : St × Int) (e : Ending) (w' : World) : Prop := e = .returned (.int .i64 r.2) ∧ ∃ K', Dk w' p K' r.1 ∧ From w K K' ∧ Turn K w w'

section
variable {w : World} {p : Nat} {K : Nat → Prop} {bf bt : Option Nat} {V : Nm → Value} {s : St}

theorem Ans.same {r : St × Int} (h : Dk w p K r.1) {w' : World} (t : Turn no w w') : Ans w p K r (.returned (.int .i64 r.2)) w' := ⟨rfl, K, h.turn_no t, From.refl w K, t.of_no⟩
theorem Ans.numb {w2 w' : World} {r : St × Int} {e : Ending} (T : Turn no w w2) (h : e = .returned (.int .i64 r.2) ∧ ∃ K', Dk w' p K' r.1 ∧ (∀ k, K' k → K k ∨ w.heap.size ≤ k) ∧ Turn (fun k => K k ∨ w.heap.size ≤ k) w2 w') : Ans w p K r e w' := by
  obtain ⟨rfl, K', h1, h2, h3⟩ := h
  refine ⟨rfl, K', h1, h2, (T.of_no).trans h3 (fun i hi q => ?_)⟩
  rcases q with q | q
  · exact q
  · omega

set_option maxRecDepth 100000 in
set_option maxHeartbeats 4000000 in
theorem append12 (hk : Dk w p K s) (hn : s.n < 4611686018427387904) (nm : Nm) (hnm : nm.length ≤ maxLen) (v : Value) (b : List UInt8) (hb : Bs w v b) (hvK : b ≠ [] → ∀ g, v.ownBlock = some g → ¬ K g) :
    Calls Try.prog 21 #[ptr p, strV nm, v] w (Ans w p K (appS s nm b)) := by
  have T1 : Turn no w (((w.alloc (.cells #[ptr p] 34)).alloc (.cells #[strV nm] 9)).alloc (.cells #[v] 28)) := (((Turn.refl no w).alloc _).alloc _).alloc _
  have r0 : Row (((w.alloc (.cells #[ptr p] 34)).alloc (.cells #[strV nm] 9)).alloc (.cells #[v] 28)) w.heap.size #[ptr p] 34 := ((Row.new w _ 34).alloc _).alloc _
  have r1 : Row (((w.alloc (.cells #[ptr p] 34)).alloc (.cells #[strV nm] 9)).alloc (.cells #[v] 28)) (w.heap.size + 1) #[strV nm] 9 := (Row.newAt _ _ 9 _ (by simp)).alloc _
  have r2 : Row (((w.alloc (.cells #[ptr p] 34)).alloc (.cells #[strV nm] 9)).alloc (.cells #[v] 28)) (w.heap.size + 1 + 1) #[v] 28 := Row.newAt _ _ 28 _ (by simp)
  have hk1 := hk.turn_no T1
  have hb1 := hb.turn_no T1
  have hr := ready32 hk1 nm hnm
  have hsz := T1.size
  obtain ⟨va, vc, hvs⟩ := hb.slice
  have c0 := r0.cell 0 _ rfl
  have c1 := r1.cell 0 _ rfl
  have c2 := r2.cell 0 _ rfl
  generalize hw1 : ((w.alloc (.cells #[ptr p] 34)).alloc (.cells #[strV nm] 9)).alloc (.cells #[v] 28) = w1 at *
  have hKlt : ∀ k, K k → k < w.heap.size := by
    obtain ⟨bf, bt, V, h⟩ := hk
    exact h.klt
  by_cases ha : asked s nm = 0
  · obtain ⟨a1, a2⟩ := asked_off ha
    obtain ⟨bf, bt, V, h1⟩ := hk1
    have ho := h1.inv.out a1
    have hf := fits33 h1 ho nm hnm b.length
    rw [ha] at hr
    cases hfb : fitsB s nm b.length with
    | false =>
      have e : appS s nm b = (s, 62) := by simp [appS, ha, hfb]
      rw [e]
      rw [hfb] at hf
      have fin : ∀ w', Turn no w1 w' → Ans w p K (s, 62) (.returned (.int .i64 62)) w' := fun w' t => Ans.same (r := (s, 62)) hk (T1.then_no t)
      clear h1 hk e hfb hb1 r0 r1 r2
      subst hvs
      unfold ptr strV at *
      go_enter Try.func21, Try.ntmps21
      go_wp2_with fail
      refine hr.mono ?_
      rintro e w' ⟨rfl, rfl⟩
      go_wp2_with fail
      refine hf.mono ?_
      rintro e w2 ⟨rfl, t2⟩
      go_wp2_with fail
      go_ret
      exact fin _ t2
    | true =>
      have e : appS s nm b = numb s (appL s.fs nm b) := by simp [appS, ha, hfb]
      rw [e]
      have hinv : Inv { s with fs := appL s.fs nm b } := by
        simp only [fitsB, Bool.and_eq_true, Bool.or_eq_true, decide_eq_true_eq] at hfb
        refine h1.inv.put _ a2 ?_ ?_ hfb.2
        · have : (fileOf s.fs nm).sy ≤ (fileOf s.fs nm).bs.length := by
            unfold fileOf
            cases hg : getF nm s.fs with
            | none => exact Nat.le_refl _
            | some f => exact h1.inv.sy f (getF_mem hg).1
          simp
          omega
        · have := fileOf_len s.fs nm
          have := h1.inv.used
          simp
          omega
      rw [hfb] at hf
      have hnum : ∀ w2, Turn no w1 w2 → Calls Try.prog 46 #[ptr p, .func (.func 47) #[] #[ptr w.heap.size, ptr (w.heap.size + 1), ptr (w.heap.size + 1 + 1)]] w2 (fun e w' => Ans w p K (numb s (appL s.fs nm b)) e w') := fun w2 t => by
        have h2 := h1.turn t (fun _ _ q => q)
        refine (numbered_35 h2 a1 hn _ (appL s.fs nm b) w.heap.size (does35 w.heap.size _ _ _ (Nat.le_trans hsz t.size) h2 a1 nm v b (hb1.turn_no t) hvK (r0.turn t (fun q => q)) (r1.turn t (fun q => q)) (r2.turn t (fun q => q)) (fun q => by have := hKlt _ q; omega) (fun q => by have := hKlt _ q; omega) (fun q => by have := hKlt _ q; omega) hinv)).mono ?_
        intro e w' hh
        exact Ans.numb (T1.then_no t) hh
      have cc : ∀ w2, Turn no w1 w2 → w2.cell? ⟨w.heap.size, 0, none⟩ = some (ptr p) := fun w2 t => (r0.turn t (fun q => q)).cell 0 _ rfl
      clear h1 hk e hfb hb1 r0 r1 r2 hinv
      subst hvs
      unfold ptr strV at *
      go_enter Try.func21, Try.ntmps21
      go_wp2_with fail
      refine hr.mono ?_
      rintro e w' ⟨rfl, rfl⟩
      go_wp2_with fail
      refine hf.mono ?_
      rintro e w2 ⟨rfl, t2⟩
      have cp := cc _ t2
      have hnum2 := hnum _ t2
      go_wp2_with fail
      refine hnum2.mono ?_
      rintro e w3 hA
      obtain ⟨rfl, hA⟩ := hA
      go_wp2_with fail
      go_ret
      exact ⟨rfl, hA⟩
  · have e : appS s nm b = (s, asked s nm) := by simp [appS, ha]
    rw [e]
    have ha' : (asked s nm != 0) = true := by simpa using ha
    have fin : Ans w p K (s, asked s nm) (.returned (.int .i64 (asked s nm))) w1 := Ans.same (r := (s, asked s nm)) hk T1
    generalize asked s nm = E at *
    clear hk1 hk e ha hb1 r0 r1 r2
    subst hvs
    unfold ptr strV at *
    go_enter Try.func21, Try.ntmps21
    go_wp2_with fail
    refine hr.mono ?_
    rintro e w' ⟨rfl, rfl⟩
    go_wp2_with fail
    go_ret
    exact fin
end
end Go.Proofs.Ytcdogciacchigab
