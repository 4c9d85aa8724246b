/- sameState. -/
import Derived.Test.YtbhimedajfkioaaS7
import Derived.Test.YtbhimedajfkioaaQ1
namespace Go.Proofs.Ytbhimedajfkioaa
open Go.RowKit
set_option linter.unusedVariables false
theorem one_range {W : World} {b o : Nat} {v : Value} (h : W.cell? ⟨b, o, none⟩ = some v) : W.rangeAt b o [v] := fun j x hx => by
  rcases j with _ | j
  · simp at hx
    subst hx
    exact h
  · simp at hx
theorem size24 (v : Value) : (Try.prog.info? 24).map (·.size) = some [v].length := by kernel_rfl

set_option maxRecDepth 100000 in
set_option maxHeartbeats 20000000 in
theorem state15 (w : World) (s : ByteArray) (p : Pm) (h t : Int) (v v' u u' va vr ua ur : Value) (L N : List Mb) (l : List Ac) (r : List Rl) (b k : Int)
    (hv : Ms w v L) (hv' : Ms w v' L) (hu : Ms w u N) (hu' : Ms w u' N) (ha : As w va l) (hr : Rs w vr r) (ha' : As w ua l) (hr' : Rs w ur r) :
    Calls Try.prog 15 #[.agg (stL s p h t v u va vr b k).toArray, .agg (stL s p h t v' u' ua ur b k).toArray] w fun e w' => e = .returned (.bool true) ∧ Turn no w w' := by
  obtain ⟨w0, hw0⟩ : ∃ w0, (w.alloc (.cells (stL s p h t v u va vr b k).toArray 65)).alloc (.cells (stL s p h t v' u' ua ur b k).toArray 65) = w0 := ⟨_, rfl⟩
  have T0 : Turn no w w0 := by rw [← hw0]; exact ((Turn.refl no w).alloc _).alloc _
  have B0 : Row w0 w.heap.size (stL s p h t v u va vr b k).toArray 65 := by rw [← hw0]; exact (Row.new w _ 65).alloc _
  have B1 : Row w0 (w.heap.size + 1) (stL s p h t v' u' ua ur b k).toArray 65 := by rw [← hw0]; exact Row.newAt _ _ _ _ (by simp)
  have hi27 : (Try.prog.info? 27).map (·.size) = some (zid.map bv).length := size27
  have hE : ∀ W, (Op.equalIn 10000 27 (.agg (zid.map bv).toArray) (.agg (zid.map bv).toArray)).run Try.prog W = .ok true W := fun W => by rw [eqIn27 W 9998 zid zid (by decide) (by decide)]; simp
  have hi54 := size54 p
  have hE54 := fun W => eq54 W p
  have HT0 := shut T0
  have x0 : w0.cell? ⟨w.heap.size, 0, none⟩ = some (.string s) := B0.cell 0 _ rfl
  have y0 : w0.cell? ⟨w.heap.size + 1, 0, none⟩ = some (.string s) := B1.cell 0 _ rfl
  have x1 : w0.rangeAt w.heap.size 1 (pmL p) := fun j x hx => B0.cell (1 + j) _ (stL_pm s p h t _ _ _ _ b k j x hx)
  have y1 : w0.rangeAt (w.heap.size + 1) 1 (pmL p) := fun j x hx => B1.cell (1 + j) _ (stL_pm s p h t _ _ _ _ b k j x hx)
  have x13 : w0.cell? ⟨w.heap.size, 13, none⟩ = some (.int .u64 h) := B0.cell 13 _ rfl
  have y13 : w0.cell? ⟨w.heap.size + 1, 13, none⟩ = some (.int .u64 h) := B1.cell 13 _ rfl
  have x14 : w0.cell? ⟨w.heap.size, 14, none⟩ = some (.int .u64 t) := B0.cell 14 _ rfl
  have y14 : w0.cell? ⟨w.heap.size + 1, 14, none⟩ = some (.int .u64 t) := B1.cell 14 _ rfl
  have x15 : w0.rangeAt w.heap.size 15 (zid.map bv) := fun j x hx => B0.cell (15 + j) _ (stL_z s p h t _ _ _ _ b k j x hx)
  have y15 : w0.rangeAt (w.heap.size + 1) 15 (zid.map bv) := fun j x hx => B1.cell (15 + j) _ (stL_z s p h t _ _ _ _ b k j x hx)
  have x50 : w0.cell? ⟨w.heap.size, 50, none⟩ = some (.slice none 0 0) := B0.cell 50 _ rfl
  have y50 : w0.cell? ⟨w.heap.size + 1, 50, none⟩ = some (.slice none 0 0) := B1.cell 50 _ rfl
  have HB0 := shut B0
  have HB1 := shut B1
  have HV := shut (And.intro hv (And.intro hv' (And.intro hu (And.intro hu' (And.intro ha (And.intro hr (And.intro ha' hr')))))))
  clear B0 B1 T0 hv hv' hu hu' ha hr ha' hr'
  obtain ⟨C0, hC0⟩ : ∃ C0, Hid ((stL s p h t v u va vr b k).toArray = C0) := ⟨_, rfl⟩
  obtain ⟨C1, hC1⟩ : ∃ C1, Hid ((stL s p h t v' u' ua ur b k).toArray = C1) := ⟨_, rfl⟩
  rw [hC0.out] at hw0
  rw [hC1.out] at hw0
  rw [hC0.out, hC1.out]
  generalize zid.map bv = iz at *
  obtain ⟨ip, hip⟩ : ∃ ip, Hid (pmL p = ip) := ⟨_, rfl⟩
  rw [hip.out] at hi54 x1 y1
  have hE54 : ∀ W, (Op.equalIn 10000 54 (.agg ip.toArray) (.agg ip.toArray)).run Try.prog W = .ok true W := fun W => by rw [← hip.out]; exact hE54 W
  go_enter Try.func15, Try.ntmps15
  go_upto_region 1 with fail
  try rw [hw0]
  go_wp2_with (first | (refine wpList_load_midG (by rfl) 27 (.tmp 33) rfl w.heap.size 15 rfl iz _ x15 Try.underlying27 rfl hi27 ?_) | (refine wpList_load_midG (by rfl) 27 (.tmp 35) rfl (w.heap.size + 1) 15 rfl iz _ y15 Try.underlying27 rfl hi27 ?_) | (refine wpList_load_midG (by rfl) 54 (.tmp 12) rfl w.heap.size 1 rfl ip _ x1 Try.underlying54 rfl hi54 ?_) | (refine wpList_load_midG (by rfl) 54 (.tmp 14) rfl (w.heap.size + 1) 1 rfl ip _ y1 Try.underlying54 rfl hi54 ?_))
  clear x0 x1 x13 x14 x15 y0 y1 y13 y14 y15 hE hE54 hi27 hi54 x50 y50 hw0
  go_loopw [5] (fun c wr => c = .int .i64 0 ∧ Turn no w0 wr) (fun c _ => 0)
  case atStart => exact ⟨rfl, Turn.refl _ _⟩
  case round =>
    obtain ⟨rfl, T⟩ := hrel
    have HT := shut T
    have x50 : wr.cell? ⟨w.heap.size, 50, none⟩ = some (.slice none 0 0) := (HB0.out.turn T (fun q => q)).cell 50 _ rfl
    have HK : Shut (∀ W, Turn no w0 W → W.rangeAt w.heap.size 47 [v] ∧ W.rangeAt w.heap.size 48 [u] ∧ W.cell? ⟨w.heap.size, 49, none⟩ = some (.slice none 0 0) ∧ W.rangeAt (w.heap.size + 1) 47 [v'] ∧ W.rangeAt (w.heap.size + 1) 48 [u'] ∧ W.cell? ⟨w.heap.size + 1, 49, none⟩ = some (.slice none 0 0)) := fun W t =>
      have b0 := HB0.out.turn t (fun q => q)
      have b1 := HB1.out.turn t (fun q => q)
      ⟨one_range (b0.cell 47 _ rfl), one_range (b0.cell 48 _ rfl), b0.cell 49 _ rfl, one_range (b1.cell 47 _ rfl), one_range (b1.cell 48 _ rfl), b1.cell 49 _ rfl⟩
    have HR : Shut (∀ W, Turn no w0 W → W.rangeAt w.heap.size 51 [va, vr, .int .u64 b, .int .u64 k] ∧ W.rangeAt (w.heap.size + 1) 51 [ua, ur, .int .u64 b, .int .u64 k]) := fun W q =>
      ⟨fun j x hx => (HB0.out.turn q (fun q => q)).cell (51 + j) _ (stL_l s p h t _ _ _ _ b k j x hx), fun j x hx => (HB1.out.turn q (fun q => q)).cell (51 + j) _ (stL_l s p h t _ _ _ _ b k j x hx)⟩
    have H1 : Shut (∀ W, Turn no w0 W → Calls Try.prog 10 #[.agg [v].toArray, .agg [v'].toArray] W fun e w' => e = .returned (.bool true) ∧ Turn no W w') := fun W q => by
      obtain ⟨a1, a2, a3, a4, a5, a6, a7, a8⟩ := HV.out
      have q := HT0.out.then_no q
      exact same10 W v v' L (a1.turn_no q) (a2.turn_no q)
    have H2 : Shut (∀ W, Turn no w0 W → Calls Try.prog 10 #[.agg [u].toArray, .agg [u'].toArray] W fun e w' => e = .returned (.bool true) ∧ Turn no W w') := fun W q => by
      obtain ⟨a1, a2, a3, a4, a5, a6, a7, a8⟩ := HV.out
      have q := HT0.out.then_no q
      exact same10 W u u' N (a3.turn_no q) (a4.turn_no q)
    have H4 : Shut (∀ W, Turn no w0 W → Calls Try.prog 40 #[.agg [va, vr, .int .u64 b, .int .u64 k].toArray, .agg [ua, ur, .int .u64 b, .int .u64 k].toArray] W fun e w' => e = .returned (.bool true) ∧ Turn no W w') := fun W q => by
      obtain ⟨a1, a2, a3, a4, a5, a6, a7, a8⟩ := HV.out
      have q := HT0.out.then_no q
      exact same40 W va vr ua ur l r (a5.turn_no q) (a6.turn_no q) (a7.turn_no q) (a8.turn_no q) b k
    obtain ⟨x47, x48, x49, y47, y48, y49⟩ := HK.out wr T
    have hi63 : (Try.prog.info? 63).map (·.size) = some [va, vr, .int .u64 b, .int .u64 k].length := size63 va vr b k
    have hi63' : (Try.prog.info? 63).map (·.size) = some [ua, ur, .int .u64 b, .int .u64 k].length := size63 ua ur b k
    have hi1 : (Try.prog.info? 24).map (·.size) = some [v].length := size24 v
    have hi2 : (Try.prog.info? 24).map (·.size) = some [v'].length := size24 v'
    have hi3 : (Try.prog.info? 24).map (·.size) = some [u].length := size24 u
    have hi4 : (Try.prog.info? 24).map (·.size) = some [u'].length := size24 u'
    clear T HB0 HB1 HV hC0 hC1 hip
    revert HK HR H1 H2 H4 x47 x48 y47 y48 hi63 hi63' hi1 hi2 hi3 hi4
    generalize [v] = lv, [v'] = lv', [u] = lu, [u'] = lu', [va, vr, .int .u64 b, .int .u64 k] = lr, [ua, ur, .int .u64 b, .int .u64 k] = lr'
    intro HK HR H1 H2 H4 x47 x48 y47 y48 hi63 hi63' hi1 hi2 hi3 hi4

    go_wp2_with (first | (refine wpList_load_midG (by rfl) 24 (.tmp 66) rfl w.heap.size 47 rfl lv _ x47 Try.underlying24 rfl hi1 ?_) | (refine wpList_load_midG (by rfl) 24 (.tmp 68) rfl (w.heap.size + 1) 47 rfl lv' _ y47 Try.underlying24 rfl hi2 ?_) | (go_at_call 10; refine (H1.out _ HT.out).mono ?_; rintro e w2 ⟨rfl, t2⟩; have HT2 := shut (HT.out.then_no t2); clear x47 x48 x49 y47 y48 y49 t2 H1; obtain ⟨x47, x48, x49, y47, y48, y49⟩ := HK.out w2 HT2.out; clear x47 y47 x49 y49) | (refine wpList_load_midG (by rfl) 24 (.tmp 72) rfl w.heap.size 48 rfl lu _ x48 Try.underlying24 rfl hi3 ?_) | (refine wpList_load_midG (by rfl) 24 (.tmp 74) rfl (w.heap.size + 1) 48 rfl lu' _ y48 Try.underlying24 rfl hi4 ?_) | (go_at_call 10; refine (H2.out _ HT2.out).mono ?_; rintro e w3 ⟨rfl, t3⟩; have HT3 := shut (HT2.out.then_no t3); clear x48 y48 t3 H2; obtain ⟨x47, x48, x49, y47, y48, y49⟩ := HK.out w3 HT3.out; clear x47 y47 x48 y48) | (go_at_call 39; refine (past39 _).mono ?_; rintro e w4 ⟨rfl, t4⟩; have HT4 := shut (HT3.out.then_no t4); clear x49 y49 t4; obtain ⟨x51, y51⟩ := HR.out w4 HT4.out) | (refine wpList_load_midG (by rfl) 63 (.tmp 86) rfl w.heap.size 51 rfl lr _ x51 Try.underlying63 rfl hi63 ?_) | (refine wpList_load_midG (by rfl) 63 (.tmp 88) rfl (w.heap.size + 1) 51 rfl lr' _ y51 Try.underlying63 rfl hi63' ?_) | (go_at_call 40; refine (H4.out _ HT4.out).mono ?_; rintro e w5 ⟨rfl, t5⟩; have HT5 := shut (HT0.out.then_no (HT4.out.then_no t5)); clear t5 x51 y51))
    go_ret
    exact ⟨rfl, HT5.out⟩
end Go.Proofs.Ytbhimedajfkioaa
