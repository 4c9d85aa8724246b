/- councilBehind. -/
import Derived.Test.YtbhimedajfkioaaGa
import Derived.Test.YtbhimedajfkioaaKE2
namespace Go.Proofs.Ytbhimedajfkioaa
open Go.RowKit
set_option linter.unusedVariables false

/-- The council one turn on. -/
def onceL (c : List Mb) : List Mb := turnsN (tot c) c 1
theorem Ms.slice {w : World} {v : Value} {l : List Mb} (h : Ms w v l) : ∃ a n k, v = .slice a n k := by
  obtain ⟨a, k, e, _⟩ := h
  exact ⟨_, _, _, e⟩
/-- Renew of a council and of a list that has nothing wrong. -/
theorem renew66 (w : World) (vc v : Value) (c l : List Mb) (hc : Ms w vc c) (h : Ms w v l) (hL : weighE l = 0) : Calls Try.prog 66 #[.agg #[vc], v] w fun e w' => ∃ a n k, e = .returned (.tuple #[.agg #[.slice a n k], .int .i64 (soundE c)]) ∧ (soundE c = 0 → Made w.heap.size w' (.slice a n k) (renewL c l)) ∧ Turn no w w' := by
  by_cases hE : soundE c = 0
  · refine (renew11_yes w vc v c l hc h hE hL).mono ?_
    rintro e w' ⟨u, rfl, M, t⟩
    obtain ⟨a, n, k, rfl⟩ := M.ms.slice
    exact ⟨a, n, k, by rw [hE], fun _ => M, t⟩
  · refine (renew11_bad w vc v c l hc h hE).mono ?_
    rintro e w' ⟨rfl, t⟩
    exact ⟨_, _, _, rfl, fun q => absurd q hE, t⟩
theorem rrenew38 (w : World) (vc v : Value) (c l : List Mb) (hc : Ms w vc c) (h : Ms w v l) (hL : weighE l = 0) : Calls Try.prog 38 #[.agg #[vc], v] w fun e w' => ∃ a n k, e = .returned (.tuple #[.agg #[.slice a n k], .int .i64 (soundE c)]) ∧ (soundE c = 0 → Made w.heap.size w' (.slice a n k) (renewL c l)) ∧ Turn no w w' := by
  by_cases hE : soundE c = 0
  · refine (rrenew21_yes w vc v c l hc h hE hL).mono ?_
    rintro e w' ⟨u, rfl, M, t⟩
    obtain ⟨a, n, k, rfl⟩ := M.ms.slice
    exact ⟨a, n, k, by rw [hE], fun _ => M, t⟩
  · refine (rrenew21_bad w vc v c l hc h hE).mono ?_
    rintro e w' ⟨rfl, t⟩
    exact ⟨_, _, _, rfl, fun q => absurd q hE, t⟩
set_option maxRecDepth 100000 in
set_option maxHeartbeats 4000000 in
theorem behind31 (w : World) (vc v : Value) (c l : List Mb) (hc : Ms w vc c) (h : Ms w v l) (hE : soundE c = 0) (hL : weighE l = 0) : Calls Try.prog 31 #[.agg #[vc], v] w fun e w' => ∃ a n k, e = .returned (.tuple #[.agg #[.slice a n k], .int .i64 (soundE (onceL c))]) ∧ (soundE (onceL c) = 0 → Made w.heap.size w' (.slice a n k) (renewL (onceL c) l)) ∧ Turn no w w' := by
  have HC := shut hc
  have HV := shut h
  obtain ⟨ca, cn, ck, rfl⟩ := hc.slice
  have hl0 : l.length ≠ 0 := (weigh_ok l hL).1
  have hvl := h
  obtain ⟨va, vk, rfl, hV⟩ := hvl
  obtain ⟨n, hn⟩ : ∃ n, Hid (l.length = n) := ⟨_, rfl⟩
  have hn' : l.length = n := hn.out
  obtain ⟨w0, hw0⟩ : ∃ w0, (w.alloc (.cells #[.slice ca cn ck] 24)).alloc (.cells #[.slice none 0 0] 24) = w0 := ⟨_, rfl⟩
  have T0 : Turn no w w0 := by rw [← hw0]; exact ((Turn.refl no w).alloc _).alloc _
  have B0 : Row w0 w.heap.size #[.slice ca cn ck] 24 := by rw [← hw0]; exact (Row.new w _ 24).alloc _
  have B1 : Row w0 (w.heap.size + 1) #[.slice none 0 0] 24 := by rw [← hw0]; exact Row.newAt _ _ _ _ (by simp)
  have x0 := B0.cell 0 _ rfl
  have ht := turn10_yes w0 _ c (HC.out.turn_no T0) 1 hE (by decide)
  rw [show ((1 : Nat) : Int) = 1 from rfl] at ht
  have HT0 := shut T0
  have HB1 := shut B1
  have HLL := shut hL
  rw [hn'] at HV ⊢
  have hn0 : ((n : Int) == 0) = false := by simp; omega
  clear hV T0 B0 B1 hl0 hn' hE hL hc h
  go_enter Try.func31, Try.ntmps31
  go_upto_region 1 with fail
  try rw [hw0]
  clear hw0
  go_upto_region 2 with (go_at_call 65; refine ht.mono ?_; clear ht; rintro e w1 ⟨u, rfl, M, t1⟩; obtain ⟨ua, un, uk, rfl⟩ := M.ms.slice; have HM := shut M.ms; have HT1 := shut t1; clear M t1)
  obtain ⟨w2, hw2⟩ : ∃ w2, w1.alloc (.cells #[.slice ua un uk] 24) = w2 := ⟨_, rfl⟩
  have t2 : Turn no w1 w2 := by rw [← hw2]; exact (Turn.refl no w1).alloc _
  have R2 : Row w2 w1.heap.size #[.slice ua un uk] 24 := by rw [← hw2]; exact Row.new w1 _ 24
  have y0 := R2.cell 0 _ rfl
  have T02 := HT1.out.then_no t2
  have hre := renew66 w2 _ _ (onceL c) l (HM.out.turn_no t2) (HV.out.turn_no (HT0.out.then_no T02)) HLL.out
  have HR := shut (HB1.out.turn T02 (fun q => q))
  have HTT := shut (HT0.out.then_no T02)
  try rw [hw2]
  clear hw2 t2 R2 T02 HM HB1 x0
  generalize hSE : soundE (onceL c) = SE at *
  have HSE := shut hSE
  clear hSE
  go_wp2_with (go_at_call 66; refine hre.mono ?_; clear hre; rintro e w3 ⟨ra, rn, rk, rfl, hms, t3⟩; have HMS := shut hms; have HR3 := shut (HR.out.turn t3 (fun q => q)); have HT3 := shut (HTT.out.then_no t3); have z0 := HR3.out.cell 0 _ rfl; have z1 := HR3.out.frozen 0; clear hms t3)
  have TS : Turn (fun k => k = w.heap.size + 1) w3 (w3.setCell ⟨w.heap.size + 1, 0, none⟩ (.slice ra rn rk)) := (Turn.refl (fun k => k = w.heap.size + 1) w3).setCell (p := ⟨w.heap.size + 1, 0, none⟩) (fun _ => rfl) _
  refine ⟨rfl, _, results_cell_row_tmp (g := w.heap.size + 1) (cs := #[.slice ra rn rk]) (t := 24) rfl _ _ _ _ rfl (HR3.out.set 0 _) Try.underlying24 rfl (by kernel_rfl), ra, rn, rk, by rw [HSE.out]; rfl, fun q => ?_, HT3.out.trans TS (fun i hi q => by omega)⟩
  have hM := HMS.out (by rw [← HSE.out]; exact q)
  obtain ⟨g, cap, e, R, hg⟩ := hM
  have hlt := HR.out.lt
  have hs := HTT.out.size
  refine Made.turn ⟨g, cap, e, R, by omega⟩ TS (fun g' hg' z => ?_)
  rw [e] at hg'
  have : g = g' := Option.some.inj hg'
  omega
end Go.Proofs.Ytbhimedajfkioaa
