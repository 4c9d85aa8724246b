/- The document's parts: named, num, sealed, join. -/
import Derived.Test.YtgimecdmleofeaaDoorT2
import Derived.Test.YtgimecdmleofeaaDoorTk
namespace Go.Proofs.YtgimecdmleofeaaDoor
open Go.RowKit
set_option linter.unusedVariables false

theorem num79 (w : World) (n : Nat) (hn : n < 18446744073709551616) : Calls Tryd.prog 73 #[.int .u64 n] w fun e w' => ∃ v, e = .returned v ∧ Fr w w' v (varE n) := by
  have C := rvar61 w n hn
  go_enter Tryd.func73, Tryd.ntmps73
  go_wp2_with (go_at_call 99; refine C.mono ?_; rintro e w1 ⟨v1, rfl, F1⟩; obtain ⟨a, l, c, rfl⟩ := F1.form)
  go_ret
  exact ⟨_, rfl, F1⟩
theorem sealed80 (w : World) (X : Array Value) : Calls Tryd.prog 74 #[.agg X, .bool false] w fun e w' => e = .returned (.slice none 0 0) ∧ Turn no w w' := by
  go_enter Tryd.func74, Tryd.ntmps74
  go_wp2_with fail
  go_ret
  exact ⟨rfl, (Turn.refl no w).alloc _⟩
/-- Lists of bytes, one behind the other. -/
def Ls (w : World) (g : Nat) (L : List (Value × List UInt8)) : Prop := (∀ (j : Nat) (x : Value × List UInt8), L[j]? = some x → w.cell? ⟨g, j, none⟩ = some x.1 ∧ Bs w x.1 x.2)
theorem Ls.turn_no {w w' : World} {g : Nat} {L : List (Value × List UInt8)} (h : Ls w g L) (t : Turn no w w') : Ls w' g L := fun j x hx => ⟨t.keep (h j x hx).1 (fun q => q), (h j x hx).2.turn_no t⟩
def catL (L : List (Value × List UInt8)) : List UInt8 := L.flatMap (·.2)
theorem catL_take (L : List (Value × List UInt8)) (k : Nat) (x : Value × List UInt8) (h : L[k]? = some x) : catL (L.take (k + 1)) = catL (L.take k) ++ x.2 := by
  unfold catL
  rw [List.take_add_one, h]
  simp
theorem catL_le (L : List (Value × List UInt8)) (k : Nat) : (catL (L.take k)).length ≤ (catL L).length := by
  have : catL L = catL (L.take k) ++ catL (L.drop k) := by unfold catL; rw [← List.flatMap_append, List.take_append_drop]
  rw [this]
  simp
set_option maxRecDepth 100000 in
set_option maxHeartbeats 2000000 in
theorem join78 (w : World) (g cap : Nat) (L : List (Value × List UInt8)) (h : Ls w g L) (hl : L.length ≤ 100) (hB : (catL L).length ≤ 140737488355328) :
    Calls Tryd.prog 72 #[.slice (some ⟨g, 0, none⟩) L.length cap] w fun e w' => ∃ v, e = .returned v ∧ Fr w w' v (catL L) := by
  obtain ⟨n, hn⟩ : ∃ n, L.length = n := ⟨_, rfl⟩
  rw [hn] at hl ⊢
  have HN := shutX hn
  have HH := shutX h
  have HB := shutX hB
  clear hn h hB
  go_enter Tryd.func72, Tryd.ntmps72
  go_wp2_with fail
  go_loopw [3, 4] (fun v i wr => ∃ k : Nat, k ≤ n ∧ i = .int .i64 k ∧ Fr w wr v (catL (L.take k))) (fun _ i _ => n - (intOf i).toNat)
  case atStart => exact ⟨0, Nat.zero_le _, rfl, by simpa [catL] using Fr.nil w⟩
  case round =>
    obtain ⟨k, hk, rfl, F⟩ := hrel
    by_cases hlt : k < n
    · have hlt' : (k : Int) < (n : Int) := by omega
      obtain ⟨x, hx⟩ : ∃ x, L[k]? = some x := ⟨L[k]'(by rw [HN.out]; exact hlt), List.getElem?_eq_getElem _⟩
      obtain ⟨ck, bk⟩ := (HH.out.turn_no F.turn) k x hx
      have e1 := catL_take L k x hx
      have hle : (catL (L.take k)).length + x.2.length ≤ 140737488355328 := by
        have := catL_le L (k + 1)
        rw [e1, List.length_append] at this
        have := HB.out
        omega
      have E1 := shutX e1
      obtain ⟨a1, c1, hv⟩ := bk.slice
      have hsr := bk.src (P := Tryd.prog) Tryd.underlying70
      obtain ⟨av, lv, cv, rfl⟩ := F.form
      generalize catL (L.take k) = A at *
      rw [hv] at ck hsr
      have HS := shutX hsr
      generalize x.2.length = xn at *
      clear e1 hsr hx bk hv
      go_wp2_with (at_builtin; refine wpList_append_src rfl (.tmp 11) (.tmp 15) rfl Tryd.underlying70 Tryd.info5 rfl _ (A.map bv) rfl F.own _ xn (x.2.map bv) rfl HS.out ?bb ?mm ?_)
      case bb => simp; omega
      case mm => simp [maxLen]; omega
      intro v1 w1 o1 g1 _
      have F1 := F.append (ys := x.2) (Turn.refl _ _) o1 g1
      obtain ⟨ad, ln, cp, rfl⟩ := o1.form
      clear o1 g1 F
      rw [← E1.out] at F1
      go_wp2_with fail
      go_roundw
      case rel => exact ⟨k + 1, by omega, by go_num, F1⟩
      case measure => simp [intOf]; omega
    · obtain rfl : k = n := by omega
      have hlt' : ¬ (k : Int) < (k : Int) := by omega
      have e2 : catL (L.take k) = catL L := by rw [List.take_of_length_le (by rw [HN.out]; omega)]
      rw [e2] at F
      obtain ⟨av, lv, cv, rfl⟩ := F.form
      go_wp2_with fail
      go_ret
      exact ⟨_, rfl, F⟩
end Go.Proofs.YtgimecdmleofeaaDoor

