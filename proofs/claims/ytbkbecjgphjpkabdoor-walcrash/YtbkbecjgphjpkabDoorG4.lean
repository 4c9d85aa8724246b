/- Open of a log. -/
import Derived.Test.YtbkbecjgphjpkabDoorG3
import Derived.Test.YtbkbecjgphjpkabDoorL1
import Derived.Test.YtbkbecjgphjpkabDoorP3
namespace Go.Proofs.YtbkbecjgphjpkabDoor
open Go.RowKit Go.Maps
set_option linter.unusedVariables false

/-- How many records have frames within the first bytes. -/
def cwN : List (List UInt8) → Nat → Nat
  | [], _ => 0
  | r :: l, f => if f < r.length + 13 then 0 else cwN l (f - (r.length + 13)) + 1
theorem cwN_le : ∀ (l : List (List UInt8)) (f : Nat), cwN l f ≤ l.length
  | [], _ => Nat.le_refl _
  | r :: l, f => by
    unfold cwN
    split
    · simp
    · have := cwN_le l (f - (r.length + 13)); simp; omega
theorem cwN_all : ∀ (l : List (List UInt8)) (f : Nat), (cat l).length ≤ f → cwN l f = l.length
  | [], _, _ => rfl
  | r :: l, f, h => by
    rw [cat_cons, List.length_append, frameB_len] at h
    unfold cwN
    rw [if_neg (by omega), cwN_all l (f - (r.length + 13)) (by omega)]
    rfl

set_option maxRecDepth 100000 in
set_option maxHeartbeats 2000000 in
theorem within18 (w : World) (v : Value) (ts : List (Value × List UInt8)) (h : Bl w v ts) (f : Nat) (hf : f ≤ 1099511627776) (hl : ∀ t ∈ ts, t.2.length ≤ 1099511627776) :
    Calls Tryd.prog 18 #[v, .int .i64 f] w fun e w' => e = .returned (.int .i64 (cwN (ts.map (·.2)) f : Nat)) ∧ w' = w := by
  obtain ⟨aa, cp, rfl, hlc, hm, hc⟩ := h
  obtain ⟨n, hn⟩ : ∃ n, ts.length = n := ⟨_, rfl⟩
  rw [hn] at hlc ⊢
  go_enter Tryd.func18, Tryd.ntmps18
  go_wp2_with fail
  go_loopw [1, 9] (fun a i wr => ∃ (k g : Nat), k ≤ n ∧ i = .int .i64 k ∧ a = .int .i64 g ∧ g ≤ f ∧ cwN (ts.map (·.2)) f = k + cwN ((ts.drop k).map (·.2)) g ∧ w = wr) (fun _ i _ => n - (intOf i).toNat)
  case atStart => exact ⟨0, f, Nat.zero_le _, rfl, rfl, Nat.le_refl _, by simp, rfl⟩
  case round =>
    obtain ⟨k, g, hk, rfl, rfl, hg, hC, rfl⟩ := hrel
    replace hC := Hid.mk' hC
    by_cases hlt : k < n
    · have hlt' : (k : Int) < (n : Int) := by omega
      obtain ⟨t, ht⟩ : ∃ t, ts[k]? = some t := ⟨ts[k]'(by omega), List.getElem?_eq_getElem _⟩
      obtain ⟨b, o, rfl, d, hb⟩ := hc k t ht
      have hdr : ts.drop k = t :: ts.drop (k + 1) := by
        rw [List.drop_eq_getElem_cons (by omega)]
        congr 1
        have := List.getElem?_eq_getElem (l := ts) (i := k) (by omega)
        rw [this] at ht
        exact Option.some.inj ht
      have htl := hl t (List.mem_of_getElem? ht)
      rw [hdr, List.map_cons] at hC
      obtain ⟨tv, tb⟩ := t
      simp only at d hb hC htl
      obtain ⟨xa, xc, rfl⟩ := hb.slice
      obtain ⟨N, hN⟩ : ∃ N, tb.length = N := ⟨_, rfl⟩
      rw [hN] at d htl
      have hk1 : Hid (k + 1 ≤ n) := hlt
      clear hb hc ht hdr hl
      by_cases hfit : g < N + 13
      · have hD : ((g : Int) - ((N : Int) + 13)) < 0 := by omega
        have hfin : Hid (cwN (ts.map (·.2)) f = k) := by
          show cwN (ts.map (·.2)) f = k
          rw [hC.out, cwN, if_pos (by omega)]
          rfl
        have hNb : (N : Int) ≤ 1099511627776 := by omega
        go_wp2_with fail
        go_ret
        rw [hfin.out]
        exact ⟨rfl, rfl⟩
      · obtain ⟨g', hg'⟩ : ∃ g', g - (N + 13) = g' := ⟨_, rfl⟩
        have hD : ((g : Int) - ((N : Int) + 13)) = (g' : Int) := by omega
        have hD0 : ¬ ((g' : Int) < 0) := by omega
        have hNb : (N : Int) ≤ 1099511627776 := by omega
        have hgf : g' ≤ f := by omega
        have hfin : Hid (cwN (ts.map (·.2)) f = (k + 1) + cwN ((ts.drop (k + 1)).map (·.2)) g') := by
          show cwN (ts.map (·.2)) f = _
          rw [hC.out, cwN, if_neg (by omega), hN, hg']
          omega
        clear hC hg'
        go_wp2_with fail
        go_roundw
        case rel => exact ⟨k + 1, g', hk1.out, by go_num, by trivial, hgf, hfin.out, by trivial⟩
        case measure => have := hk1.out; simp [intOf]; omega
    · have hlt' : ¬ (k : Int) < (n : Int) := by omega
      have hfin : Hid (cwN (ts.map (·.2)) f = n) := by
        show cwN (ts.map (·.2)) f = n
        rw [hC.out, List.drop_eq_nil_of_le (by omega)]
        show k + 0 = n
        omega
      go_wp2_with fail
      go_ret
      rw [hfin.out]
      exact ⟨rfl, rfl⟩
end Go.Proofs.YtbkbecjgphjpkabDoor
