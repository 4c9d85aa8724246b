/- Texts in one. -/
import Derived.Test.YtaoigopjfelgpaaGreatDoorFa
/- The text under a root: rootOf, RootText. -/
namespace Go.Proofs.YtaoigopjfelgpaaGreatDoor
open Go.RowKit
set_option linter.unusedVariables false

/-- The number's eight bytes, the lowest first. -/
def numAt (n k : Nat) : UInt8 := byteOf ((n : Int) / 2 ^ (8 * k))
def numE (n : Nat) : List UInt8 := (List.range 8).map (numAt n)
theorem numE_len (n : Nat) : (numE n).length = 8 := by simp [numE]

end Go.Proofs.YtaoigopjfelgpaaGreatDoor



/- The text under a root: the reference's RootText. -/
namespace Go.Proofs.YtaoigopjfelgpaaGreatDoor
open Go.RowKit
set_option linter.unusedVariables false

/-- The text's beginning: the mark and the number's first k bytes. -/
def rootB (n k : Nat) : List UInt8 := 2 :: (List.range k).map (numAt n)
theorem rootB_len (n k : Nat) : (rootB n k).length = k + 1 := by simp [rootB]
theorem rootB_succ (n k : Nat) : rootB n (k + 1) = rootB n k ++ [numAt n k] := by simp [rootB, List.range_succ]
theorem rootB_all (n : Nat) (X : List UInt8) : 2 :: (numE n ++ X) = rootB n 8 ++ X := by simp [rootB, numE]

end Go.Proofs.YtaoigopjfelgpaaGreatDoor



/- The top of no items, both. -/
namespace Go.Proofs.YtaoigopjfelgpaaGreatDoor
open Go.RowKit
set_option linter.unusedVariables false

set_option maxRecDepth 100000 in
set_option maxHeartbeats 4000000 in
theorem rtop_none (w : World) (av : Option Addr) (cap : Nat) (hl : Laid0 w) (hsz : 2 ≤ w.heap.size) :
    Calls Tryz.prog 102 #[.slice av 0 cap] w fun e w' => e = .returned (.agg (hb32 (hashOf []))) ∧ Turn no w w' := by
  obtain ⟨z, hz, hzs⟩ : ∃ z : Array Value, z = #[.int .u8 0, .int .u8 0, .int .u8 0, .int .u8 0, .int .u8 0, .int .u8 0, .int .u8 0, .int .u8 0, .int .u8 0, .int .u8 0, .int .u8 0, .int .u8 0, .int .u8 0, .int .u8 0, .int .u8 0, .int .u8 0, .int .u8 0, .int .u8 0, .int .u8 0, .int .u8 0, .int .u8 0, .int .u8 0, .int .u8 0, .int .u8 0, .int .u8 0, .int .u8 0, .int .u8 0, .int .u8 0, .int .u8 0, .int .u8 0, .int .u8 0, .int .u8 0] ∧ z.size = 32 := ⟨_, rfl, rfl⟩
  have T0 : Turn no w (w.alloc (.cells z 40)) := (Turn.refl no w).alloc _
  have RZ := Row.new w z 40
  have hc := rsum_all (w.alloc (.cells z 40)) (.slice none 0 0) [] (Own.nil _ _ : Own (w.alloc (.cells z 40)) 5 (.slice none 0 0) (List.map bv [])).bs (hl.turn T0 (fun q => q)) (by have := T0.size; omega) (by simp)
  have hs := hv_size []
  have h1' := hv_one []
  have hi := hv_info []
  have hh : hb32 (hashOf []) = hv [] := rfl
  rw [hh]
  clear hh
  generalize hv [] = H at *
  rw [hz] at T0 RZ hc
  go_enter Tryz.func102, Tryz.ntmps102
  go_wp2_with fail
  refine hc.mono ?_
  rintro e w2 ⟨rfl, t2⟩
  have RZ2 := RZ.turn t2 (fun q => q)
  have T2 := T0.then_no t2
  go_wp2_with (refine wpList_store_row rfl 40 (.tmp 2) _ rfl w.heap.size H rfl rfl 40 _ RZ2 hi (by rw [hs]; rfl) h1' ?_)
  refine bodyPost_ret (v := .agg H) ?_ rfl ⟨rfl, T2.setRow _ _ (fun q => by omega)⟩
  exact results_cell_row (P := Tryz.prog) Tryz.results102 _ _ w.heap.size 40 H (0, 0) _ rfl (setRow_heap _ _ _ _ _ _ RZ2) Tryz.underlying40 rfl hi

set_option maxRecDepth 100000 in
set_option maxHeartbeats 4000000 in
theorem top_none (w : World) (av : Option Addr) (cap : Nat) (hl : Laid1 w) (hsz : 2 ≤ w.heap.size) :
    Calls Tryz.prog 96 #[.slice av 0 cap] w fun e w' => e = .returned (.agg (hb32 (hashOf []))) ∧ Turn no w w' := by
  obtain ⟨z, hz, hzs⟩ : ∃ z : Array Value, z = #[.int .u8 0, .int .u8 0, .int .u8 0, .int .u8 0, .int .u8 0, .int .u8 0, .int .u8 0, .int .u8 0, .int .u8 0, .int .u8 0, .int .u8 0, .int .u8 0, .int .u8 0, .int .u8 0, .int .u8 0, .int .u8 0, .int .u8 0, .int .u8 0, .int .u8 0, .int .u8 0, .int .u8 0, .int .u8 0, .int .u8 0, .int .u8 0, .int .u8 0, .int .u8 0, .int .u8 0, .int .u8 0, .int .u8 0, .int .u8 0, .int .u8 0, .int .u8 0] ∧ z.size = 32 := ⟨_, rfl, rfl⟩
  have T0 : Turn no w (w.alloc (.cells z 40)) := (Turn.refl no w).alloc _
  have RZ := Row.new w z 40
  have hc := sum19 (w.alloc (.cells z 40)) (.slice none 0 0) [] (Own.nil _ _ : Own (w.alloc (.cells z 40)) 5 (.slice none 0 0) (List.map bv [])).bs (hl.turn T0 (fun q => q)) (by have := T0.size; omega) (by simp)
  have hs := hv_size []
  have h1' := hv_one []
  have hi := hv_info []
  have hh : hb32 (hashOf []) = hv [] := rfl
  rw [hh]
  clear hh
  generalize hv [] = H at *
  rw [hz] at T0 RZ hc
  go_enter Tryz.func96, Tryz.ntmps96
  go_wp2_with fail
  refine hc.mono ?_
  rintro e w2 ⟨rfl, t2⟩
  have RZ2 := RZ.turn t2 (fun q => q)
  have T2 := T0.then_no t2
  go_wp2_with (refine wpList_store_row rfl 40 (.tmp 2) _ rfl w.heap.size H rfl rfl 40 _ RZ2 hi (by rw [hs]; rfl) h1' ?_)
  refine bodyPost_ret (v := .agg H) ?_ rfl ⟨rfl, T2.setRow _ _ (fun q => by omega)⟩
  exact results_cell_row (P := Tryz.prog) Tryz.results96 _ _ w.heap.size 40 H (0, 0) _ rfl (setRow_heap _ _ _ _ _ _ RZ2) Tryz.underlying40 rfl hi
end Go.Proofs.YtaoigopjfelgpaaGreatDoor



/- Is there too much? large and tooBig. -/
namespace Go.Proofs.YtaoigopjfelgpaaGreatDoor
open Go.RowKit
set_option linter.unusedVariables false

/-- More items, or a longer one, than there may be. -/
def bigOf (l : List (List UInt8)) : Bool := decide (65536 < l.length) || l.any (fun x => decide (1048576 < x.length))

set_option maxRecDepth 100000 in
set_option maxHeartbeats 4000000 in
theorem large_any (w : World) (l : List (Value × List UInt8)) (n b o cap : Nat) (hln : l.length = n) (hP : Pcs w b o l) (hcap : n ≤ cap) (hn : n < 4611686018427387904) :
    Calls Tryz.prog 75 #[.slice (some ⟨b, o, none⟩) n cap] w fun e w' => e = .returned (.bool (bigOf (l.map (·.2)))) ∧ w' = w := by
  have hb1 : 65536 < n → bigOf (l.map (·.2)) = true := fun h => by simp [bigOf, hln, h]
  have hb2 : ∀ x ∈ l, 1048576 < x.2.length → bigOf (l.map (·.2)) = true := fun x hx h => by
    have : (l.map (·.2)).any (fun x => decide (1048576 < x.length)) = true := List.any_eq_true.mpr ⟨x.2, List.mem_map.mpr ⟨x, hx, rfl⟩, by simpa using h⟩
    rw [bigOf, this, Bool.or_true]
  have hb3 : n ≤ 65536 → (∀ x ∈ l, x.2.length ≤ 1048576) → bigOf (l.map (·.2)) = false := fun h h' => by
    have : (l.map (·.2)).any (fun x => decide (1048576 < x.length)) = false := by
      rw [List.any_eq_false]
      intro x hx
      obtain ⟨y, hy, rfl⟩ := List.mem_map.mp hx
      have := h' y hy
      simp; omega
    rw [bigOf, this, Bool.or_false, List.length_map, hln]
    simp; omega
  generalize bigOf (l.map (·.2)) = R at *
  by_cases hbig : 65536 < n
  · have hbig' : (65536 : Int) < (n : Int) := by omega
    have hR := hb1 hbig
    subst hR
    clear hb1 hb2 hb3
    go_enter Tryz.func75, Tryz.ntmps75
    go_wp2_with fail
    go_ret
    exact ⟨rfl, rfl⟩
  · have hbig' : ¬ (65536 : Int) < (n : Int) := by omega
    go_enter Tryz.func75, Tryz.ntmps75
    go_wp2_with fail
    go_loopw [3] (fun c wr => ∃ (k : Nat), k ≤ n ∧ c = .int .i64 (k : Int) ∧ wr = w ∧ ∀ j x, j < k → l[j]? = some x → x.2.length ≤ 1048576) (fun c _ => n - (intOf c).toNat)
    case atStart => exact ⟨0, by omega, rfl, rfl, fun j x h => by omega⟩
    case round =>
      obtain ⟨k, hk, rfl, rfl, hsm⟩ := hrel
      by_cases hlt : k < n
      · have hlt' : (k : Int) < (n : Int) := by omega
        obtain ⟨x, hx⟩ : ∃ x, l[k]? = some x := ⟨l[k]'(by omega), by simp⟩
        obtain ⟨ck, bk⟩ := hP k x hx
        obtain ⟨ax, cx, hxs⟩ := bk.slice
        rw [hxs] at ck
        by_cases hlo : 1048576 < x.2.length
        · have hR := hb2 x (List.mem_of_getElem? hx) hlo
          subst hR
          have hlo' : (1048576 : Int) < (x.2.length : Int) := by omega
          clear hb1 hb2 hb3 hsm hxs bk
          generalize x.2.length = m at *
          go_wp2_with fail
          go_ret
          exact ⟨rfl, rfl⟩
        · have hlo' : ¬ (1048576 : Int) < (x.2.length : Int) := by omega
          have hsm' : ∀ j y, j < k + 1 → l[j]? = some y → y.2.length ≤ 1048576 := fun j y hj hy => by
            by_cases hjk : j = k
            · subst hjk
              rw [hx] at hy
              injection hy with hy
              subst hy
              omega
            · exact hsm j y (by omega) hy
          clear hb1 hb2 hb3 hsm hxs bk
          generalize hm : x.2.length = m at *
          clear hm
          go_wp2_with fail
          go_roundw
          case rel => exact ⟨k + 1, by omega, by go_num, trivial, hsm'⟩
          case measure => simp [intOf]; omega
      · have hlt' : ¬ (k : Int) < (n : Int) := by omega
        have hR := hb3 (by omega) (fun x hx => by
          obtain ⟨j, hj⟩ := List.getElem?_of_mem hx
          have hjl : j < l.length := (List.getElem?_eq_some_iff.mp hj).1
          exact hsm j x (by omega) hj)
        subst hR
        clear hb1 hb2 hb3 hsm
        go_wp2_with fail
        go_ret
        exact ⟨rfl, rfl⟩
end Go.Proofs.YtaoigopjfelgpaaGreatDoor



/- Is there too much? tooBig. -/
namespace Go.Proofs.YtaoigopjfelgpaaGreatDoor
open Go.RowKit
set_option linter.unusedVariables false


set_option maxRecDepth 100000 in
set_option maxHeartbeats 4000000 in
theorem tooBig_any (w : World) (l : List (Value × List UInt8)) (n b o cap : Nat) (hln : l.length = n) (hP : Pcs w b o l) (hcap : n ≤ cap) (hn : n < 4611686018427387904) :
    Calls Tryz.prog 69 #[.slice (some ⟨b, o, none⟩) n cap] w fun e w' => e = .returned (.bool (bigOf (l.map (·.2)))) ∧ w' = w := by
  have hb1 : 65536 < n → bigOf (l.map (·.2)) = true := fun h => by simp [bigOf, hln, h]
  have hb2 : ∀ x ∈ l, 1048576 < x.2.length → bigOf (l.map (·.2)) = true := fun x hx h => by
    have : (l.map (·.2)).any (fun x => decide (1048576 < x.length)) = true := List.any_eq_true.mpr ⟨x.2, List.mem_map.mpr ⟨x, hx, rfl⟩, by simpa using h⟩
    rw [bigOf, this, Bool.or_true]
  have hb3 : n ≤ 65536 → (∀ x ∈ l, x.2.length ≤ 1048576) → bigOf (l.map (·.2)) = false := fun h h' => by
    have : (l.map (·.2)).any (fun x => decide (1048576 < x.length)) = false := by
      rw [List.any_eq_false]
      intro x hx
      obtain ⟨y, hy, rfl⟩ := List.mem_map.mp hx
      have := h' y hy
      simp; omega
    rw [bigOf, this, Bool.or_false, List.length_map, hln]
    simp; omega
  generalize bigOf (l.map (·.2)) = R at *
  by_cases hbig : 65536 < n
  · have hbig' : (65536 : Int) < (n : Int) := by omega
    have hR := hb1 hbig
    subst hR
    clear hb1 hb2 hb3
    go_enter Tryz.func69, Tryz.ntmps69
    go_wp2_with fail
    go_ret
    exact ⟨rfl, rfl⟩
  · have hbig' : ¬ (65536 : Int) < (n : Int) := by omega
    go_enter Tryz.func69, Tryz.ntmps69
    go_wp2_with fail
    go_loopw [10] (fun c wr => ∃ (k : Nat), k ≤ n ∧ c = .int .i64 (k : Int) ∧ wr = w ∧ ∀ j x, j < k → l[j]? = some x → x.2.length ≤ 1048576) (fun c _ => n - (intOf c).toNat)
    case atStart => exact ⟨0, by omega, rfl, rfl, fun j x h => by omega⟩
    case round =>
      obtain ⟨k, hk, rfl, rfl, hsm⟩ := hrel
      by_cases hlt : k < n
      · have hlt' : (k : Int) < (n : Int) := by omega
        obtain ⟨x, hx⟩ : ∃ x, l[k]? = some x := ⟨l[k]'(by omega), by simp⟩
        obtain ⟨ck, bk⟩ := hP k x hx
        obtain ⟨ax, cx, hxs⟩ := bk.slice
        rw [hxs] at ck
        by_cases hlo : 1048576 < x.2.length
        · have hR := hb2 x (List.mem_of_getElem? hx) hlo
          subst hR
          have hlo' : (1048576 : Int) < (x.2.length : Int) := by omega
          clear hb1 hb2 hb3 hsm hxs bk
          generalize x.2.length = m at *
          go_wp2_with fail
          go_ret
          exact ⟨rfl, rfl⟩
        · have hlo' : ¬ (1048576 : Int) < (x.2.length : Int) := by omega
          have hsm' : ∀ j y, j < k + 1 → l[j]? = some y → y.2.length ≤ 1048576 := fun j y hj hy => by
            by_cases hjk : j = k
            · subst hjk
              rw [hx] at hy
              injection hy with hy
              subst hy
              omega
            · exact hsm j y (by omega) hy
          clear hb1 hb2 hb3 hsm hxs bk
          generalize hm : x.2.length = m at *
          clear hm
          go_wp2_with fail
          go_roundw
          case rel => exact ⟨k + 1, by omega, by go_num, trivial, hsm'⟩
          case measure => simp [intOf]; omega
      · have hlt' : ¬ (k : Int) < (n : Int) := by omega
        have hR := hb3 (by omega) (fun x hx => by
          obtain ⟨j, hj⟩ := List.getElem?_of_mem hx
          have hjl : j < l.length := (List.getElem?_eq_some_iff.mp hj).1
          exact hsm j x (by omega) hj)
        subst hR
        clear hb1 hb2 hb3 hsm
        go_wp2_with fail
        go_ret
        exact ⟨rfl, rfl⟩
set_option maxRecDepth 100000 in
set_option maxHeartbeats 4000000 in
theorem large_none (w : World) (av : Option Addr) (cap : Nat) :
    Calls Tryz.prog 75 #[.slice av 0 cap] w fun e w' => e = .returned (.bool false) ∧ w' = w := by
  go_enter Tryz.func75, Tryz.ntmps75
  go_wp2_with fail
  go_loopw [3] (fun c wr => c = .int .i64 0 ∧ wr = w) (fun _ _ => 0)
  case atStart => exact ⟨rfl, rfl⟩
  case round =>
    obtain ⟨rfl, rfl⟩ := hrel
    go_wp2_with fail
    go_ret
    exact ⟨rfl, rfl⟩

set_option maxRecDepth 100000 in
set_option maxHeartbeats 4000000 in
theorem tooBig_none (w : World) (av : Option Addr) (cap : Nat) :
    Calls Tryz.prog 69 #[.slice av 0 cap] w fun e w' => e = .returned (.bool false) ∧ w' = w := by
  go_enter Tryz.func69, Tryz.ntmps69
  go_wp2_with fail
  go_loopw [10] (fun c wr => c = .int .i64 0 ∧ wr = w) (fun _ _ => 0)
  case atStart => exact ⟨rfl, rfl⟩
  case round =>
    obtain ⟨rfl, rfl⟩ := hrel
    go_wp2_with fail
    go_ret
    exact ⟨rfl, rfl⟩
end Go.Proofs.YtaoigopjfelgpaaGreatDoor



/- Does a proof fit? fits and Fits. -/
namespace Go.Proofs.YtaoigopjfelgpaaGreatDoor
open Go.RowKit
set_option linter.unusedVariables false

theorem int_beq_nat (a b : Nat) : ((a : Int) == (b : Int)) = decide (a = b) := by
  rw [Bool.eq_iff_iff]
  simp [Int.ofNat_inj]

/-- A place in a list, and as many digests as its way is long. -/
def fitsB (t i : Int) (n : Nat) : Bool := decide (1 ≤ t ∧ t ≤ 65536 ∧ 0 ≤ i ∧ i < t ∧ n = stepsN t.toNat i.toNat)
theorem fitsB_no {t i : Int} {n : Nat} (h : ¬ (1 ≤ t ∧ t ≤ 65536 ∧ 0 ≤ i ∧ i < t)) : fitsB t i n = false := by
  unfold fitsB
  exact decide_eq_false (fun q => h ⟨q.1, q.2.1, q.2.2.1, q.2.2.2.1⟩)
theorem fitsB_in (t i n : Nat) (h1 : 1 ≤ t) (h2 : t ≤ 65536) (h3 : i < t) : fitsB t i n = decide (n = stepsN t i) := by
  unfold fitsB
  apply decide_eq_decide.mpr
  simp only [Int.toNat_natCast]
  constructor
  · exact fun q => q.2.2.2.2
  · exact fun q => ⟨by omega, by omega, by omega, by omega, q⟩

end Go.Proofs.YtaoigopjfelgpaaGreatDoor


