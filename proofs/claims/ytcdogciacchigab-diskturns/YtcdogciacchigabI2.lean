/- opened, lives: the disk of a law. -/
import Derived.Test.YtcdogciacchigabI1
import Derived.Test.YtcdogciacchigabN1
namespace Go.Proofs.Ytcdogciacchigab
open Go.RowKit Go.Maps
set_option linter.unusedVariables false

theorem eql22_none (w : World) : (binOp .eql 34 (.pointer none) (.pointer none)).run Try.prog w = .ok (.bool true) w := by
  have h : ∀ d : Nat, (Op.equalIn (d + 1) 34 (.pointer none) (.pointer none)).run Try.prog w = .ok true w := fun d => by
    simp [Op.equalIn, run_underlying Try.underlying34]
  simp only [binOp]
  simp [Op.equal, Op.maxDepth, h 9999]

/-- What a law's disk is made of. -/
structure Mx where
  lim : Int
  mt : Bool
  l : List Fx
def liveS (m : Mx) : St := if m.mt then (if mOk m.lim m.l then mSt m.lim.toNat m.l else newSt 4096) else (if m.lim < 1 ∨ 1073741824 < m.lim then newSt 4096 else newSt m.lim.toNat)
def mxC (m : Mx) (a : Option Addr) (cap : Nat) : Array Value := #[.int .i64 m.lim, .bool m.mt, .slice a m.l.length cap]
/-- A disk that was made just now. -/
def Live (w : World) (q : Nat) (w' : World) (s : St) : Prop := ∃ K, w.heap.size ≤ q ∧ Dk w' q K s ∧ (∀ x, K x → w.heap.size ≤ x) ∧ Turn no w w'
theorem Live.of {w w1 w2 : World} {q : Nat} {K : Nat → Prop} {s : St} (t : Turn no w w1) (hq : w1.heap.size ≤ q) (h : Dk w2 q K s) (hF : From w1 no K) (t2 : Turn no w1 w2) : Live w q w2 s :=
  ⟨K, by have := t.size; omega, h, fun x hx => by
    rcases hF x hx with y | y
    · exact y.elim
    · have := t.size; omega, t.then_no t2⟩

set_option maxRecDepth 100000 in
set_option maxHeartbeats 4000000 in
theorem opened41 (B : Nat) (w : World) (hBw : B ≤ w.heap.size) (m : Mx) (a : Option Addr) (cap : Nat) (h : Fs B w a cap m.l) : Calls Try.prog 37 #[.agg (mxC m a cap)] w fun e w' =>
    (e = .returned (.pointer none) ∧ liveS m = newSt 4096 ∧ Turn no w w') ∨ (∃ q, e = .returned (ptr q) ∧ Live w q w' (liveS m)) := by
  obtain ⟨lim, mt, l⟩ := m
  have T1 : Turn no w (w.alloc (.cells #[.int .i64 lim, .bool mt, .slice a l.length cap] 26)) := (Turn.refl no w).alloc _
  have h1 := h.turn_no T1
  have hmo := mount25 B _ (by have := T1.size; omega) a cap l h1 lim
  unfold mxC
  simp only
  cases mt with
  | true =>
    clear h h1
    go_enter Try.func37, Try.ntmps37
    go_wp2_with fail
    refine hmo.mono ?_
    rintro e w2 (⟨hM, er, rfl, t2⟩ | ⟨hM, q, K, rfl, hq, hD, hF, t2⟩)
    · have hls : Shut (liveS ⟨lim, true, l⟩ = newSt 4096) := by
        show liveS ⟨lim, true, l⟩ = newSt 4096
        simp [liveS, hM]
      clear hM
      go_wp2_with fail
      go_ret
      exact Or.inl ⟨rfl, hls.out, T1.then_no t2⟩
    · have hls : liveS ⟨lim, true, l⟩ = mSt lim.toNat l := by simp [liveS, hM]
      rw [← hls] at hD
      have HL := shut (Live.of T1 hq hD hF t2)
      clear hM hD hF hls hq
      unfold ptr at *
      go_wp2_with fail
      go_ret
      exact Or.inr ⟨q, rfl, HL.out⟩
  | false =>
    clear h h1 hmo
    by_cases hlim : lim < 1 ∨ 1073741824 < lim
    · have hn := new9_no (w.alloc (.cells #[.int .i64 lim, .bool false, .slice a l.length cap] 26)) lim hlim
      have hls : Shut (liveS ⟨lim, false, l⟩ = newSt 4096) := by
        show liveS ⟨lim, false, l⟩ = newSt 4096
        simp [liveS, hlim]
      clear hlim
      go_enter Try.func37, Try.ntmps37
      go_wp2_with fail
      refine hn.mono ?_
      rintro e w2 ⟨rfl, rfl⟩
      go_wp2_with fail
      go_ret
      exact Or.inl ⟨rfl, hls.out, T1⟩
    · have hls : liveS ⟨lim, false, l⟩ = newSt lim.toNat := by simp [liveS, hlim]
      have hn := new9 (w.alloc (.cells #[.int .i64 lim, .bool false, .slice a l.length cap] 26)) lim.toNat (by omega) (by omega)
      rw [show ((lim.toNat : Nat) : Int) = lim by omega] at hn
      rw [← hls] at hn
      clear hlim hls
      unfold ptr at *
      go_enter Try.func37, Try.ntmps37
      go_wp2_with fail
      refine hn.mono ?_
      rintro e w2 ⟨q, K, rfl, hq, hD, hF, t2⟩
      have HL := shut (Live.of T1 hq hD hF t2)
      clear hD hF hq
      go_wp2_with fail
      go_ret
      exact Or.inr ⟨q, rfl, HL.out⟩

set_option maxRecDepth 100000 in
set_option maxHeartbeats 4000000 in
theorem lives17 (B : Nat) (w : World) (hBw : B ≤ w.heap.size) (m : Mx) (a : Option Addr) (cap : Nat) (h : Fs B w a cap m.l) : Calls Try.prog 9 #[.agg (mxC m a cap)] w fun e w' =>
    ∃ q, e = .returned (.tuple #[ptr q, .bool true]) ∧ Live w q w' (liveS m) := by
  have T1 : Turn no w (w.alloc (.cells (mxC m a cap) 26)) := (Turn.refl no w).alloc _
  have hop := opened41 B _ (by have := T1.size; omega) m a cap (h.turn_no T1)
  have hn := fun W => new9 W 4096 (by omega) (by omega)
  have e1 := fun w => eql22_none w
  have e2 := fun a w => eql22_nil a w
  have hz := fun W => num10 W 0
  unfold mxC at *
  clear h
  go_enter Try.func9, Try.ntmps9
  go_wp2_with fail
  refine hop.mono ?_
  rintro e w2 (⟨rfl, hS, t2⟩ | ⟨q, rfl, K, hq, hD, hK, t2⟩)
  · have HS := shut hS
    have hn2 := hn w2
    have HN := shut hn2
    clear hop hn hn2 hS
    go_wp2_with fail
    refine HN.out.mono ?_
    rintro e w3 ⟨q, K, rfl, hq, hD, hF, t3⟩
    have HL := shut (Live.of (T1.then_no t2) hq hD hF t3)
    have hz3 := hz w3
    unfold ptr at *
    clear hD hF hq hz
    go_wp2_with fail
    refine hz3.mono ?_
    rintro e w4 ⟨rfl, rfl⟩
    go_wp2_with fail
    go_ret2
    exact ⟨q, rfl, by rw [HS.out]; exact HL.out⟩
  · have HL : Shut (Live w q w2 (liveS m)) := ⟨K, by have := T1.size; omega, hD, (fun x hx => by have := hK x hx; have := T1.size; omega), T1.then_no t2⟩
    clear hop hn hD hK hq
    unfold ptr at *
    go_wp2_with fail
    go_ret2
    exact ⟨q, rfl, HL.out⟩
end Go.Proofs.Ytcdogciacchigab
