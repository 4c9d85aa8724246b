/- DiskCounted: the walk. -/
import Derived.Test.YtcdogciacchigaaK0
import Derived.Test.YtcdogciacchigaaS2
namespace Go.Proofs.Ytcdogciacchigaa
open Go.RowKit Go.Maps
set_option linter.unusedVariables false

theorem wrap64_id {x : Int} (h0 : -9223372036854775808 ≤ x) (h1 : x ≤ 9223372036854775807) : wrap64 x = x := by
  unfold wrap64
  omega
theorem tm (x : Int) (c : Int) (hc : 0 < c) (hc2 : c ≤ 1000) : ∃ r : Nat, (r : Int) < c ∧ (wrap64 (x.tmod c + c)).tmod c = (r : Int) := by
  have h1 := Int.tmod_lt_of_pos x hc
  have h2 := Int.lt_tmod_of_pos x hc
  rw [wrap64_id (by omega) (by omega)]
  have h3 : (x.tmod c + c).tmod c = (x.tmod c + c) % c := Int.tmod_eq_emod_of_nonneg (by omega)
  have h4 := Int.emod_nonneg (x.tmod c + c) (show c ≠ 0 by omega)
  have h5 := Int.emod_lt_of_pos (x.tmod c + c) hc
  exact ⟨((x.tmod c + c) % c).toNat, by omega, by omega⟩
theorem xor0F : ∀ n : Fin 256, bits .xor .u8 (n.val : Int) 0 = (n.val : Int) := by decide +kernel
theorem xor0 (a : UInt8) : xorB a 0 = a := by
  unfold xorB
  have h := xor0F ⟨a.toNat, a.toNat_lt⟩
  have e : ((0 : UInt8).toNat : Int) = 0 := rfl
  rw [e, h]
  simp
def cW (k m : Nat) (done : Bool) : Nat := if m < k then m else if done then k else k - 1
theorem cSt_fs (k m : Nat) (done : Bool) : (cSt k done m).fs = cF (cW k m done) := by
  unfold cSt cW
  by_cases h : m < k <;> simp [h]
theorem cSt_n (k m : Nat) (done : Bool) : ((cSt k done m).n : Int) = min (m : Int) (k : Int) := by
  unfold cSt
  by_cases h : m < k
  · simp [h]; omega
  · simp [h]; omega
theorem cSt_off (k m : Nat) (done : Bool) : (cSt k done m).off = !decide (m < k) := by
  unfold cSt
  by_cases h : m < k <;> simp [h]
theorem cSt_out (k m : Nat) (done : Bool) : (cSt k done m).out = false := by
  unfold cSt
  by_cases h : m < k <;> simp [h]
theorem cSt_nle (k m : Nat) (done : Bool) : (cSt k done m).n ≤ m := by
  unfold cSt
  by_cases h : m < k
  · simp [h]
  · simp [h]; omega
theorem c_crash (x : Nat) (hx : x ≤ 30) : crashL (cF x) [100] 0 = if x = 0 then [] else [([97], cBytes x)] := by
  unfold cF
  by_cases h : x = 0
  · simp [h, crashL]
  · have hk : keepN (cBytes x).length 0 100 = x := by rw [cBytes_len]; simp [keepN]; omega
    have : leftB (cBytes x) 0 100 0 = cBytes x := by
      unfold leftB
      rw [hk, if_neg h, xor0]
      simp only [Nat.zero_add]
      rw [List.take_of_length_le (by rw [cBytes_len]; exact Nat.le_refl _)]
      apply List.ext_getElem?
      intro j
      rw [List.getElem?_set]
      split
      · rename_i e
        subst e
        simp [cBytes_len, show x - 1 < x by omega]
      · rfl
    simp [h, crashL, this]
theorem cBytes_last (x : Nat) (h : x ≠ 0) : (cBytes x)[x - 1]? = some (UInt8.ofNat x) := by
  unfold cBytes
  rw [List.getElem?_map, List.getElem?_range (by omega)]
  show some (UInt8.ofNat (x - 1 + 1)) = _
  rw [show x - 1 + 1 = x by omega]
theorem Im.zero {B : Nat} {w : World} {v : Value} (h : Im B w v []) : ∃ a c, v = .slice a 0 c := by
  obtain ⟨vs, _, h2, _⟩ := h
  rcases h2.2 with ⟨e, _⟩ | ⟨g, cap, cur, e, _⟩
  · exact ⟨_, _, e⟩
  · exact ⟨_, _, e⟩
theorem Im.one {B : Nat} {w : World} {v : Value} {nm : Nm} {bs : List UInt8} (h : Im B w v [(nm, bs)]) (hb : bs ≠ []) : ∃ g c g' c', v = .slice (some ⟨g, 0, none⟩) 1 c ∧ w.cell? ⟨g, 1, none⟩ = some (.slice (some ⟨g', 0, none⟩) bs.length c') ∧ ∀ j x, bs[j]? = some x → w.cell? ⟨g', j, none⟩ = some (.int .u8 x.toNat) := by
  obtain ⟨vs, h1, h2, _, h4⟩ := h
  match vs, h1 with
  | [u], _ =>
    obtain ⟨hO, _⟩ := h4 0 _ u rfl rfl
    rcases hO.shape with ⟨_, q⟩ | ⟨g', c', cur', e', _⟩
    · exact (hb (List.map_eq_nil_iff.1 q)).elim
    · rcases h2.2 with ⟨_, q⟩ | ⟨g, cap, cur, e, _⟩
      · cases q
      · subst e e'
        simp only [List.length_map] at hO h2 ⊢
        refine ⟨g, cap, g', c', rfl, ?_, fun j x hx => hO.cell j (bv x) (by simp [hx])⟩
        have := World.ownsRow.cells h2 (g := g) rfl 1 _ rfl
        simpa [Addr.add_lit] using this

set_option maxRecDepth 100000 in
set_option maxHeartbeats 8000000 in
theorem counted_any (w : World) (at_ n : Int) (done : Bool) : Calls Try.prog 3 #[.int .i64 at_, .int .i64 n, .bool done] w fun e w' => e = .returned (.bool true) ∧ Turn no w w' := by
  have h1 := new9 w 4096 (by omega) (by omega)
  have hnum := shut num10
  obtain ⟨k, hk1, hk2, hk⟩ : ∃ k : Nat, 1 ≤ k ∧ k ≤ 20 ∧ wrap64 (1 + (wrap64 (at_.tmod 20 + 20)).tmod 20) = (k : Int) := by
    obtain ⟨r, hr, e⟩ := tm at_ 20 (by omega) (by omega)
    rw [e]
    refine ⟨1 + r, by omega, by omega, ?_⟩
    rw [wrap64_id (by omega) (by omega)]
    omega
  obtain ⟨m, hm2, hm⟩ : ∃ m : Nat, m < 30 ∧ (wrap64 (n.tmod 30 + 30)).tmod 30 = (m : Int) := by
    obtain ⟨r, hr, e⟩ := tm n 30 (by omega) (by omega)
    exact ⟨r, by omega, e⟩
  have hstart := fun W (q : Nat) (K : Nat → Prop) (hD : Dk W q K (newSt 4096)) => arm11 hD (by simp [newSt]) (by simp [newSt]) ⟨k, 2, done⟩
  rw [c_start k done hk1 hk2] at hstart
  go_enter Try.func3, Try.ntmps3
  go_wp2_with fail
  refine h1.mono ?_
  rintro e w1 ⟨q, K0, rfl, hq, hD, hF, T1⟩
  have hn1 := hnum.out w1 0
  have h2 := hstart _ _ _ hD
  have hst0 : (cSt k done 0).off = false := by simp [cSt, show 0 < k by omega]
  unfold ptr trV at *
  clear h1 hstart
  go_wp2_with fail
  refine hn1.mono ?_
  rintro e w1' ⟨rfl, rfl⟩
  go_wp2_with fail
  refine h2.mono ?_
  rintro e w2 ⟨rfl, hD2, T2⟩
  have hn2 := hnum.out w2 0
  have hK0 : ∀ x, K0 x → w.heap.size ≤ x := fun x hx => by
    rcases hF x hx with y | y
    · exact y.elim
    · exact y
  have TT2 : Turn no w w2 := T1.trans T2 (fun i hi hx => by have := hK0 i hx; omega)
  go_wp2_with fail
  refine hn2.mono ?_
  rintro e w2' ⟨rfl, rfl⟩
  clear hn2 hn1 h2 hD T2 T1 hF
  go_wp2_with fail
  go_loopw [8, 11] (fun x y wr => ∃ (i j : Nat) (ev : Int) (KI : Nat → Prop), Shut (j = i + 1) ∧ j ≤ m + 1 ∧ x = .int .i64 ev ∧ y = .int .i64 (j : Int) ∧ Dk wr q KI (cSt k done i) ∧ (∀ x, KI x → w.heap.size ≤ x) ∧ Turn no w wr) (fun _ y _ => m + 1 - (intOf y).toNat)
  case atStart => exact ⟨0, 1, 0, K0, rfl, by omega, rfl, rfl, hD2, hK0, TT2⟩
  case round =>
    clear hD2 hK0 TT2
    obtain ⟨i, j, ev, KI, hij, hj, rfl, rfl, hD, hKI, T⟩ := hrel
    by_cases hlt : j ≤ m
    · have hlt' : (j : Int) ≤ (m : Int) := by omega
      have hjb : j < 256 := by omega
      have hjv : (j : Int) = ((UInt8.ofNat j).toNat : Int) := by simp; omega
      have TA : Turn no wr (wr.alloc (.cells #[.int .u8 (j : Int)] 5)) := (Turn.refl no wr).alloc _
      have hBs : Bs (wr.alloc (.cells #[.int .u8 (j : Int)] 5)) (.slice (some ⟨wr.heap.size, 0, none⟩) 1 1) [UInt8.ofNat j] := by
        refine Or.inr ⟨⟨wr.heap.size, 0, none⟩, 1, rfl, by simp, by simp [maxLen], fun x u hu => ?_⟩
        cases x with
        | zero =>
          simp at hu
          subst hu
          rw [Addr.add_lit]
          show _ = some (Value.int .u8 ((UInt8.ofNat j).toNat : Int))
          rw [← hjv]
          exact (Row.new wr #[.int .u8 (j : Int)] 5).cell 0 _ rfl
        | succ x => simp at hu
      have hlt2 : ∀ x, KI x → x < wr.heap.size := by
        obtain ⟨_, _, _, hd⟩ := hD
        exact hd.klt
      have hap := append12 (hD.turn_no TA) (by have := cSt_nle k i done; have := hij.out; omega) [97] (by simp [maxLen]) _ _ hBs (fun _ g hg q => by simp [Value.ownBlock] at hg; subst hg; have := hlt2 _ q; omega)
      have hst := c_step k done i (by have := hij.out; omega)
      rw [show i + 1 = j from hij.out.symm] at hst
      rw [hst] at hap
      have hnj := hnum.out
      unfold ptr strV at hap
      clear hBs hD hst hjv
      by_cases hjk : j < k
      · have hjk' : (j : Int) < (k : Int) := by omega
        have hjk2 : decide ((j : Int) < (k : Int)) = true := by simpa using hjk
        have hjk3 : decide ((k : Int) ≤ (j : Int)) = false := by simp; omega
        rw [if_pos hjk] at hap
        have HN := shut hnj
        clear hnj
        go_wp2_with fail
        refine hap.mono ?_
        rintro e w4 ⟨rfl, K', hD4, hF4, T4⟩
        have h4 := HN.out w4 0
        have hon := on13 hD4
        rw [cSt_off] at hon
        have : (!!decide (j < k)) = true := by simpa using hjk
        rw [this] at hon
        unfold ptr at hon
        have T4' : Turn no w w4 := (T.then_no TA).trans T4 (fun x hx y => by have := hKI x y; omega)
        have hK4 : ∀ x, K' x → w.heap.size ≤ x := fun x hx => by
          rcases hF4 x hx with y | y
          · exact hKI x y
          · have := T.size; have := TA.size; omega
        clear hap this
        go_wp2_with fail
        refine h4.mono ?_
        rintro e w5 ⟨rfl, rfl⟩
        go_wp2_with fail
        refine hon.mono ?_
        rintro e w6 ⟨rfl, rfl⟩
        go_wp2_with fail
        go_roundw
        case rel => exact ⟨j, j + 1, 0, K', rfl, by omega, rfl, by go_num, hD4, hK4, T4'⟩
        case measure => simp [intOf]; omega
      · have hjk' : ¬ (j : Int) < (k : Int) := by omega
        have hjk2 : decide ((j : Int) < (k : Int)) = false := by simpa using hjk
        have hjk3 : decide ((k : Int) ≤ (j : Int)) = true := by simp; omega
        rw [if_neg hjk] at hap
        have HN := shut hnj
        clear hnj
        go_wp2_with fail
        refine hap.mono ?_
        rintro e w4 ⟨rfl, K', hD4, hF4, T4⟩
        have h4 := HN.out w4 63
        have hon := on13 hD4
        rw [cSt_off] at hon
        have : (!!decide (j < k)) = false := by simpa using hjk
        rw [this] at hon
        unfold ptr at hon
        have T4' : Turn no w w4 := (T.then_no TA).trans T4 (fun x hx y => by have := hKI x y; omega)
        have hK4 : ∀ x, K' x → w.heap.size ≤ x := fun x hx => by
          rcases hF4 x hx with y | y
          · exact hKI x y
          · have := T.size; have := TA.size; omega
        clear hap this
        go_wp2_with fail
        refine h4.mono ?_
        rintro e w5 ⟨rfl, rfl⟩
        go_wp2_with fail
        refine h4.mono ?_
        rintro e w5' ⟨rfl, rfl⟩
        go_wp2_with fail
        refine hon.mono ?_
        rintro e w6 ⟨rfl, rfl⟩
        go_wp2_with fail
        go_roundw
        case rel => exact ⟨j, j + 1, 63, K', rfl, by omega, rfl, by go_num, hD4, hK4, T4'⟩
        case measure => simp [intOf]; omega
    · have hji : j = m + 1 := by omega
      have him : i = m := by have := hij.out; omega
      subst him
      have hlt' : ¬ (j : Int) ≤ (i : Int) := by omega
      have hc := calls14 hD
      rw [cSt_n] at hc
      have TA : Turn no wr (wr.alloc (.cells #[.int .i64 100] 3)) := (Turn.refl no wr).alloc _
      have hcr := crash15 (hD.turn_no TA) (cSt_out k i done) (.slice (some ⟨wr.heap.size, 0, none⟩) 1 1) [100] (Or.inr ⟨⟨wr.heap.size, 0, none⟩, 1, rfl, by simp, by simp [maxLen], fun x u hu => by
        cases x with
        | zero => simp at hu; subst hu; rw [Addr.add_lit]; exact (Row.new wr #[.int .i64 100] 3).cell 0 _ rfl
        | succ x => simp at hu⟩) 0
      have hxle : cW k i done ≤ 30 := by unfold cW; split <;> (try split) <;> omega
      rw [cSt_fs, c_crash _ hxle] at hcr
      have HN := hnum
      unfold ptr at hc hcr
      clear hD
      have hw36 : ∀ x : Nat, x ≤ 30 → (x : Int) % 256 = (x : Int) := fun x hx => by omega
      by_cases hik : i < k
      · have hX : cW k i done = i := by simp [cW, hik]
        rw [hX] at hcr hxle
        have q1 : decide ((k : Int) ≤ (i : Int)) = false := by simp; omega
        have q2 : min (i : Int) (k : Int) = (i : Int) := by omega
        rw [q2] at hc
        clear hX
        go_wp2_with fail
        refine hc.mono ?_
        rintro e w5 ⟨rfl, rfl⟩
        go_wp2_with fail
        refine hcr.mono ?_
        rintro e w6 ⟨v, rfl, hI, hD6, T6⟩
        have T6' : Turn no w w6 := (T.then_no TA).trans T6 (fun x hx y => by have := hKI x y; omega)
        have hn6 := HN.out (w6.alloc (.cells #[v] 36)) 0
        by_cases hX0 : i = 0
        · rw [if_pos hX0] at hI
          obtain ⟨va, vc, rfl⟩ := hI.zero
          have TF := T6'.alloc (.cells #[.slice va 0 vc] 36)
          have hXz : ((i : Nat) : Int) = 0 := by omega
          clear hI hD6 T6 T6' hcr hc
          go_wp2_with fail
          refine hn6.mono ?_
          rintro e w7 ⟨rfl, rfl⟩
          go_wp2_with fail
          go_ret
          exact ⟨rfl, TF⟩
        · rw [if_neg hX0] at hI
          have hXne : cBytes i ≠ [] := fun q => by have := cBytes_len i; rw [q] at this; simp at this; omega
          obtain ⟨g, c, g', c', rfl, c1, c2⟩ := hI.one hXne
          rw [cBytes_len] at c1
          have c3 := c2 (i - 1) _ (cBytes_last i hX0)
          have hXv : ((UInt8.ofNat i).toNat : Int) = ((i : Nat) : Int) := by simp; omega
          rw [hXv] at c3
          have TF := T6'.alloc (.cells #[.slice (some ⟨g, 0, none⟩) 1 c] 36)
          have TA6 := (Turn.refl no w6).alloc (.cells #[.slice (some ⟨g, 0, none⟩) 1 c] 36)
          have d1 := TA6.keep c1 (fun q => q)
          have d3 := TA6.keep c3 (fun q => q)
          obtain ⟨Y, hY⟩ : ∃ Y, i = Y + 1 := ⟨i - 1, by omega⟩
          have hY1 : wrap64 (((i : Nat) : Int) - 1) = (Y : Int) := by rw [wrap64_id (by omega) (by omega)]; omega
          have hY2 : ((Y : Int) < ((i : Nat) : Int)) := by omega
          have hY4 : ((i : Nat) : Int) - 1 = (Y : Int) := by omega
          have hX0' : (((i : Nat) : Int) == 0) = false := by simp; omega
          have hY3 : i - 1 = Y := by omega
          rw [hY3] at d3
          have hYX : Y < i := by omega
          have HY := shut hY
          clear hI hD6 T6 T6' hcr hc c1 c2 c3 hY hY3 hX0 hXne hXv
          go_wp2_with fail
          refine hn6.mono ?_
          rintro e w7 ⟨rfl, rfl⟩
          go_wp2_with fail
          go_ret
          exact ⟨rfl, TF⟩
      · have q1 : decide ((k : Int) ≤ (i : Int)) = true := by simp; omega
        have q2 : min (i : Int) (k : Int) = (k : Int) := by omega
        rw [q2] at hc
        cases done
        · obtain ⟨X, hX⟩ : ∃ X, X = k - 1 := ⟨_, rfl⟩
          have hX2 : cW k i false = X := by simp [cW, hik, hX]
          have hX3 : wrap64 ((k : Int) - 1) = (X : Int) := by rw [wrap64_id (by omega) (by omega)]; omega
          have hX4 : (k : Int) - 1 = (X : Int) := by omega
          rw [hX2] at hcr hxle
          clear hX2 hX
          go_wp2_with fail
          refine hc.mono ?_
          rintro e w5 ⟨rfl, rfl⟩
          go_wp2_with fail
          refine hcr.mono ?_
          rintro e w6 ⟨v, rfl, hI, hD6, T6⟩
          have T6' : Turn no w w6 := (T.then_no TA).trans T6 (fun x hx y => by have := hKI x y; omega)
          have hn6 := HN.out (w6.alloc (.cells #[v] 36)) 0
          by_cases hX0 : X = 0
          · rw [if_pos hX0] at hI
            obtain ⟨va, vc, rfl⟩ := hI.zero
            have TF := T6'.alloc (.cells #[.slice va 0 vc] 36)
            have hXz : ((X : Nat) : Int) = 0 := by omega
            clear hI hD6 T6 T6' hcr hc
            go_wp2_with fail
            refine hn6.mono ?_
            rintro e w7 ⟨rfl, rfl⟩
            go_wp2_with fail
            go_ret
            exact ⟨rfl, TF⟩
          · rw [if_neg hX0] at hI
            have hXne : cBytes X ≠ [] := fun q => by have := cBytes_len X; rw [q] at this; simp at this; omega
            obtain ⟨g, c, g', c', rfl, c1, c2⟩ := hI.one hXne
            rw [cBytes_len] at c1
            have c3 := c2 (X - 1) _ (cBytes_last X hX0)
            have hXv : ((UInt8.ofNat X).toNat : Int) = ((X : Nat) : Int) := by simp; omega
            rw [hXv] at c3
            have TF := T6'.alloc (.cells #[.slice (some ⟨g, 0, none⟩) 1 c] 36)
            have TA6 := (Turn.refl no w6).alloc (.cells #[.slice (some ⟨g, 0, none⟩) 1 c] 36)
            have d1 := TA6.keep c1 (fun q => q)
            have d3 := TA6.keep c3 (fun q => q)
            obtain ⟨Y, hY⟩ : ∃ Y, X = Y + 1 := ⟨X - 1, by omega⟩
            have hY1 : wrap64 (((X : Nat) : Int) - 1) = (Y : Int) := by rw [wrap64_id (by omega) (by omega)]; omega
            have hY2 : ((Y : Int) < ((X : Nat) : Int)) := by omega
            have hY4 : ((X : Nat) : Int) - 1 = (Y : Int) := by omega
            have hX0' : (((X : Nat) : Int) == 0) = false := by simp; omega
            have hY3 : X - 1 = Y := by omega
            rw [hY3] at d3
            have hYX : Y < X := by omega
            have HY := shut hY
            clear hI hD6 T6 T6' hcr hc c1 c2 c3 hY hY3 hX0 hXne hXv
            go_wp2_with fail
            refine hn6.mono ?_
            rintro e w7 ⟨rfl, rfl⟩
            go_wp2_with fail
            go_ret
            exact ⟨rfl, TF⟩
        · have hX2 : cW k i true = k := by simp [cW, hik]
          rw [hX2] at hcr hxle
          clear hX2
          go_wp2_with fail
          refine hc.mono ?_
          rintro e w5 ⟨rfl, rfl⟩
          go_wp2_with fail
          refine hcr.mono ?_
          rintro e w6 ⟨v, rfl, hI, hD6, T6⟩
          have T6' : Turn no w w6 := (T.then_no TA).trans T6 (fun x hx y => by have := hKI x y; omega)
          have hn6 := HN.out (w6.alloc (.cells #[v] 36)) 0
          by_cases hX0 : k = 0
          · omega
          · rw [if_neg hX0] at hI
            have hXne : cBytes k ≠ [] := fun q => by have := cBytes_len k; rw [q] at this; simp at this; omega
            obtain ⟨g, c, g', c', rfl, c1, c2⟩ := hI.one hXne
            rw [cBytes_len] at c1
            have c3 := c2 (k - 1) _ (cBytes_last k hX0)
            have hXv : ((UInt8.ofNat k).toNat : Int) = ((k : Nat) : Int) := by simp; omega
            rw [hXv] at c3
            have TF := T6'.alloc (.cells #[.slice (some ⟨g, 0, none⟩) 1 c] 36)
            have TA6 := (Turn.refl no w6).alloc (.cells #[.slice (some ⟨g, 0, none⟩) 1 c] 36)
            have d1 := TA6.keep c1 (fun q => q)
            have d3 := TA6.keep c3 (fun q => q)
            obtain ⟨Y, hY⟩ : ∃ Y, k = Y + 1 := ⟨k - 1, by omega⟩
            have hY1 : wrap64 (((k : Nat) : Int) - 1) = (Y : Int) := by rw [wrap64_id (by omega) (by omega)]; omega
            have hY2 : ((Y : Int) < ((k : Nat) : Int)) := by omega
            have hY4 : ((k : Nat) : Int) - 1 = (Y : Int) := by omega
            have hX0' : (((k : Nat) : Int) == 0) = false := by simp; omega
            have hY3 : k - 1 = Y := by omega
            rw [hY3] at d3
            have hYX : Y < k := by omega
            have HY := shut hY
            clear hI hD6 T6 T6' hcr hc c1 c2 c3 hY hY3 hX0 hXne hXv
            go_wp2_with fail
            refine hn6.mono ?_
            rintro e w7 ⟨rfl, rfl⟩
            go_wp2_with fail
            go_ret
            exact ⟨rfl, TF⟩
end Go.Proofs.Ytcdogciacchigaa
