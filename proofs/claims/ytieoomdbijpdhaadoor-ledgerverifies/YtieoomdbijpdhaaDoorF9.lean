/- Is there too much? tooBig. -/
import Derived.Test.YtieoomdbijpdhaaDoorF8
namespace Go.Proofs.YtieoomdbijpdhaaDoor
open Go.RowKit
set_option linter.unusedVariables false


set_option maxRecDepth 100000 in
set_option maxHeartbeats 4000000 in
theorem tooBig_any (w : World) (l : List (Value × List UInt8)) (n b o cap : Nat) (hln : l.length = n) (hP : Pcs w b o l) (hcap : n ≤ cap) (hn : n < 4611686018427387904) :
    Calls Tryd.prog 49 #[.slice (some ⟨b, o, none⟩) n cap] w fun e w' => e = .returned (.bool (bigOf (l.map (·.2)))) ∧ w' = w := by
  have hb1 : 65536 < n → bigOf (l.map (·.2)) = true := fun h => by simp [bigOf, hln, h]
  have hb2 : ∀ x ∈ l, 1048576 < x.2.length → bigOf (l.map (·.2)) = true := fun x hx h => by
    have : (l.map (·.2)).any (fun x => decide (1048576 < x.length)) = true := List.any_eq_true.mpr ⟨x.2, List.mem_map.mpr ⟨x, hx, rfl⟩, by simpa using h⟩
    rw [bigOf, this, Bool.or_true]
  have hb3 : n ≤ 65536 → (∀ x ∈ l, x.2.length ≤ 1048576) → bigOf (l.map (·.2)) = false := fun h h' => by
    have : (l.map (·.2)).any (fun x => decide (1048576 < x.length)) = false := by
      rw [List.any_eq_false]
      intro x hx
      obtain ⟨y, hy, rfl⟩ := List.mem_map.mp hx
      have := h' y hy
      simp; omega
    rw [bigOf, this, Bool.or_false, List.length_map, hln]
    simp; omega
  generalize bigOf (l.map (·.2)) = R at *
  by_cases hbig : 65536 < n
  · have hbig' : (65536 : Int) < (n : Int) := by omega
    have hR := hb1 hbig
    subst hR
    clear hb1 hb2 hb3
    go_enter Tryd.func49, Tryd.ntmps49
    go_wp2_with fail
    go_ret
    exact ⟨rfl, rfl⟩
  · have hbig' : ¬ (65536 : Int) < (n : Int) := by omega
    go_enter Tryd.func49, Tryd.ntmps49
    go_wp2_with fail
    go_loopw [10] (fun c wr => ∃ (k : Nat), k ≤ n ∧ c = .int .i64 (k : Int) ∧ wr = w ∧ ∀ j x, j < k → l[j]? = some x → x.2.length ≤ 1048576) (fun c _ => n - (intOf c).toNat)
    case atStart => exact ⟨0, by omega, rfl, rfl, fun j x h => by omega⟩
    case round =>
      obtain ⟨k, hk, rfl, rfl, hsm⟩ := hrel
      by_cases hlt : k < n
      · have hlt' : (k : Int) < (n : Int) := by omega
        obtain ⟨x, hx⟩ : ∃ x, l[k]? = some x := ⟨l[k]'(by omega), by simp⟩
        obtain ⟨ck, bk⟩ := hP k x hx
        obtain ⟨ax, cx, hxs⟩ := bk.slice
        rw [hxs] at ck
        by_cases hlo : 1048576 < x.2.length
        · have hR := hb2 x (List.mem_of_getElem? hx) hlo
          subst hR
          have hlo' : (1048576 : Int) < (x.2.length : Int) := by omega
          clear hb1 hb2 hb3 hsm hxs bk
          generalize x.2.length = m at *
          go_wp2_with fail
          go_ret
          exact ⟨rfl, rfl⟩
        · have hlo' : ¬ (1048576 : Int) < (x.2.length : Int) := by omega
          have hsm' : ∀ j y, j < k + 1 → l[j]? = some y → y.2.length ≤ 1048576 := fun j y hj hy => by
            by_cases hjk : j = k
            · subst hjk
              rw [hx] at hy
              injection hy with hy
              subst hy
              omega
            · exact hsm j y (by omega) hy
          clear hb1 hb2 hb3 hsm hxs bk
          generalize hm : x.2.length = m at *
          clear hm
          go_wp2_with fail
          go_roundw
          case rel => exact ⟨k + 1, by omega, by go_num, trivial, hsm'⟩
          case measure => simp [intOf]; omega
      · have hlt' : ¬ (k : Int) < (n : Int) := by omega
        have hR := hb3 (by omega) (fun x hx => by
          obtain ⟨j, hj⟩ := List.getElem?_of_mem hx
          have hjl : j < l.length := (List.getElem?_eq_some_iff.mp hj).1
          exact hsm j x (by omega) hj)
        subst hR
        clear hb1 hb2 hb3 hsm
        go_wp2_with fail
        go_ret
        exact ⟨rfl, rfl⟩
set_option maxRecDepth 100000 in
set_option maxHeartbeats 4000000 in
theorem large_none (w : World) (av : Option Addr) (cap : Nat) :
    Calls Tryd.prog 32 #[.slice av 0 cap] w fun e w' => e = .returned (.bool false) ∧ w' = w := by
  go_enter Tryd.func32, Tryd.ntmps32
  go_wp2_with fail
  go_loopw [3] (fun c wr => c = .int .i64 0 ∧ wr = w) (fun _ _ => 0)
  case atStart => exact ⟨rfl, rfl⟩
  case round =>
    obtain ⟨rfl, rfl⟩ := hrel
    go_wp2_with fail
    go_ret
    exact ⟨rfl, rfl⟩

set_option maxRecDepth 100000 in
set_option maxHeartbeats 4000000 in
theorem tooBig_none (w : World) (av : Option Addr) (cap : Nat) :
    Calls Tryd.prog 49 #[.slice av 0 cap] w fun e w' => e = .returned (.bool false) ∧ w' = w := by
  go_enter Tryd.func49, Tryd.ntmps49
  go_wp2_with fail
  go_loopw [10] (fun c wr => c = .int .i64 0 ∧ wr = w) (fun _ _ => 0)
  case atStart => exact ⟨rfl, rfl⟩
  case round =>
    obtain ⟨rfl, rfl⟩ := hrel
    go_wp2_with fail
    go_ret
    exact ⟨rfl, rfl⟩
end Go.Proofs.YtieoomdbijpdhaaDoor

