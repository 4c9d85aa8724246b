/- total, Sound, Total, Quorum, Third of the program. -/
import Derived.Test.YtgjhhmdpepdepaaDoorC1
namespace Go.Proofs.YtgjhhmdpepdepaaDoor
open Go.RowKit
set_option linter.unusedVariables false

theorem cell_new1 (w : World) (v : Value) (t : TypeId) : (w.alloc (.cells #[v] t)).cell? ⟨w.heap.size, 0, none⟩ = some v := by
  rw [cell_of_row _ w.heap.size 0 #[v] t (0, 0) (heap_alloc_new w _)]
  rfl
theorem take_all {P : Mb → Prop} {l : List Mb} {k : Nat} {m : Mb} (h : ∀ x ∈ l.take k, P x) (hm : l[k]? = some m) (hp : P m) : ∀ x ∈ l.take (k + 1), P x := by
  intro x hx
  rw [List.take_add_one, hm] at hx
  rcases List.mem_append.1 hx with hx | hx
  · exact h x hx
  · simp at hx
    subst hx
    exact hp

set_option maxRecDepth 100000 in
set_option maxHeartbeats 1000000 in
theorem total32 (w : World) (v : Value) (l : List Mb) (h : Ms w v l) : Calls Tryd.prog 18 #[.agg #[v]] w fun e w' => e = .returned (.tuple #[.int .u64 (soundT l), .int .i64 (soundE l)]) ∧ Turn no w w' := by
  have T0 : Turn no w (w.alloc (.cells #[v] 24)) := (Turn.refl no w).alloc _
  have hw := weigh36 (w.alloc (.cells #[v] 24)) v l (h.turn_no T0)
  have cb := cell_new1 w v 24
  obtain ⟨a, cap, rfl, h⟩ := h
  have hcells := h.cells
  have hok := h.ok
  have hle : l.length ≤ 9223372036854775807 := by have := h.le; have := h.cap; simp only [maxLen] at this; omega
  clear h
  obtain ⟨n, hn⟩ : ∃ n, Hid (l.length = n) := ⟨_, rfl⟩
  have hn' : l.length = n := hn.out
  rw [hn'] at hle hw cb T0 ⊢
  clear hn'
  by_cases h0 : weighE l = 0
  · obtain ⟨_, hn64, hsc, htop⟩ := weigh_ok l h0
    have hT := weighT_ok l h0
    rw [h0, hT] at hw
    have HX : ∀ m, m ∈ l → wideB (tot l) m = true → soundE l = 2 := fun m hm q => sound_wide l h0 m hm q
    have HE := sound_end l h0
    have htop' : (tot l : Int) ≤ 1152921504606846975 := by unfold top at htop; omega
    clear h0 hT htop hsc hn64
    have HF : soundE l = 0 → Ending.returned (.tuple #[.int .u64 (tot l : Int), .int .i64 0]) = Ending.returned (.tuple #[.int .u64 (soundT l : Int), .int .i64 (soundE l)]) := fun q => ret2_eq (by rw [soundT_ok l q]) q.symm
    have HG : soundE l = 2 → Ending.returned (.tuple #[.int .u64 0, .int .i64 2]) = Ending.returned (.tuple #[.int .u64 (soundT l : Int), .int .i64 (soundE l)]) := fun q => ret2_eq (soundT_no l q (by decide)) q.symm
    obtain ⟨t, ht⟩ : ∃ t, Hid (tot l = t) := ⟨_, rfl⟩
    rw [show tot l = t from ht.out] at hw HX HE htop' HF
    go_enter Tryd.func18, Tryd.ntmps18
    go_wp2_with fail
    refine hw.mono ?_
    rintro e w1 ⟨rfl, T1⟩
    have cb1 := T1.keep cb (fun q => q)
    have T := T0.then_no T1
    clear hw cb
    go_wp2_with fail
    go_loopw [24] (fun c wr => ∃ k : Nat, k ≤ n ∧ c = .int .i64 k ∧ (∀ m ∈ l.take k, wideB t m = false) ∧ Turn no w wr) (fun c _ => n - (intOf c).toNat)
    case atStart => exact ⟨0, by omega, rfl, by simp, T⟩
    case round =>
      clear T T1 T0 cb1
      obtain ⟨k, hk, rfl, hall, T⟩ := hrel
      by_cases hlt : k < n
      · obtain ⟨m, hm⟩ : ∃ m, l[k]? = some m := ⟨l[k]'(by rw [hn.out]; exact hlt), List.getElem?_eq_getElem _⟩
        obtain ⟨b, off, rfl, c0, c1, c2⟩ := hcells k m hm
        have c0 := T.keep c0 (fun q => q)
        have c1 := T.keep c1 (fun q => q)
        have c2 := T.keep c2 (fun q => q)
        obtain ⟨o1, o2, o3, o4⟩ := hok m (List.mem_of_getElem? hm)
        have hlt' : (k : Int) < (n : Int) := by omega
        have HS := take_all (P := fun x => wideB t x = false) hall hm
        have HX := HX m (List.mem_of_getElem? hm)
        clear hcells hok hm hall HE
        have TA : ∀ o : Obj, Turn no w (wr.alloc o) := fun o => T.alloc o
        by_cases a1 : m.pr < -(7 * (t : Int))
        · have hs := HG (HX (by simp [wideB]; omega))
          clear HS HX HG HF
          go_wp2_with fail
          go_ret2
          exact ⟨hs, TA _⟩
        by_cases a2 : 7 * (t : Int) < m.pr
        · have hs := HG (HX (by simp [wideB]; omega))
          clear HS HX HG HF
          go_wp2_with fail
          go_ret2
          exact ⟨hs, TA _⟩
        have hs := HS (by simp [wideB]; omega)
        clear HS HX HG HF
        go_wp2_with fail
        go_roundw
        case rel => exact ⟨k + 1, by omega, by go_num, hs, TA _⟩
        case measure => simp [intOf]; omega
      · have hkn : k = n := by omega
        subst hkn
        have hlt' : ¬ (k : Int) < (k : Int) := by omega
        rw [List.take_of_length_le (by rw [hn.out]; exact Nat.le_refl _)] at hall
        have hs := HF (HE hall)
        clear HX HE HF HG hall
        go_wp2_with fail
        go_ret2
        exact ⟨hs, T⟩
  · have hs : soundE l = weighE l := sound_weigh l h0
    have hT : (weighT l : Int) = 0 := (weighT_no l rfl h0).symm
    have HR : Ending.returned (.tuple #[.int .u64 0, .int .i64 (weighE l)]) = Ending.returned (.tuple #[.int .u64 (soundT l : Int), .int .i64 (soundE l)]) := ret2_eq (soundT_no l hs h0) hs.symm
    have HRS : Hid (Ending.returned (.tuple #[.int .u64 0, .int .i64 (weighE l)]) = Ending.returned (.tuple #[.int .u64 (soundT l : Int), .int .i64 (soundE l)])) := HR
    rw [hT] at hw
    have hne : (weighE l == 0) = false := by simp; exact h0
    clear hs hT HR
    generalize weighE l = E at *
    go_enter Tryd.func18, Tryd.ntmps18
    go_wp2_with fail
    refine hw.mono ?_
    rintro e w1 ⟨rfl, T1⟩
    have T := T0.then_no T1
    clear hw cb
    go_wp2_with fail
    go_ret2
    exact ⟨HRS.out, T⟩

/-- The least power above two thirds, above one third. -/
def quorumN (l : List Mb) : Nat := if soundE l = 0 then 2 * tot l / 3 + 1 else 0
def thirdN (l : List Mb) : Nat := if soundE l = 0 then tot l / 3 + 1 else 0
theorem tot_lt (l : List Mb) (h : soundE l = 0) : (tot l : Int) ≤ 1152921504606846975 := by
  have := (weigh_ok l (sound_ok l h).1).2.2.2
  unfold top at this
  omega

set_option maxRecDepth 100000 in
set_option maxHeartbeats 1000000 in
theorem sound27 (w : World) (v : Value) (l : List Mb) (h : Ms w v l) : Calls Tryd.prog 10 #[.agg #[v]] w fun e w' => e = .returned (.int .i64 (soundE l)) ∧ Turn no w w' := by
  have T0 : Turn no w (w.alloc (.cells #[v] 24)) := (Turn.refl no w).alloc _
  have hw := total32 (w.alloc (.cells #[v] 24)) v l (h.turn_no T0)
  clear h
  go_enter Tryd.func10, Tryd.ntmps10
  go_wp2_with fail
  refine hw.mono ?_
  rintro e w1 ⟨rfl, T1⟩
  go_wp2_with fail
  go_ret
  exact ⟨rfl, T0.then_no T1⟩
set_option maxRecDepth 100000 in
set_option maxHeartbeats 1000000 in
theorem total23 (w : World) (v : Value) (l : List Mb) (h : Ms w v l) : Calls Tryd.prog 9 #[.agg #[v]] w fun e w' => e = .returned (.int .u64 (soundT l)) ∧ Turn no w w' := by
  have T0 : Turn no w (w.alloc (.cells #[v] 24)) := (Turn.refl no w).alloc _
  have hw := total32 (w.alloc (.cells #[v] 24)) v l (h.turn_no T0)
  clear h
  go_enter Tryd.func9, Tryd.ntmps9
  go_wp2_with fail
  refine hw.mono ?_
  rintro e w1 ⟨rfl, T1⟩
  go_wp2_with fail
  go_ret
  exact ⟨rfl, T0.then_no T1⟩
end Go.Proofs.YtgjhhmdpepdepaaDoor

