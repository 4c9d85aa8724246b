/- 'lay' on a Writer that was made, with an error or without. -/
import Derived.Test.YtfjdojodbhmmaaaV2
namespace Go.Proofs.Ytfjdojodbhmmaaa
open Go.RowKit
set_option linter.unusedVariables false

set_option maxRecDepth 100000 in
set_option maxHeartbeats 4000000 in
theorem lay_err (w : World) (wv : Value) (k n e0 : Int) (vb : Value) (bs : List UInt8) (h : Fault w wv e0) (h0 : (e0 != 0) = true) (hb : Bs w vb bs) (hle : bs.length + 3 ≤ 140737488355328) :
    Calls Try.prog 22 #[wv, .agg #[.int .i64 k, .int .u64 n, vb]] w fun e w' => e = .returned (.bool true) ∧ Turn no w w' := by
  have hT0 : Turn no w (w.alloc (.cells #[.int .i64 k, .int .u64 n, vb] 27)) := (Turn.refl _ _).alloc _
  have hF := h.turn hT0 (fun _ _ q => q)
  have hb0 := hb.turn_no hT0
  have hcv := bytes_text hb0
  obtain ⟨pa, rfl⟩ := hF.ptr
  obtain ⟨a, c, rfl⟩ := hb.slice
  have hk : k % 9 = 0 ∨ k % 9 = 1 ∨ k % 9 = 2 ∨ k % 9 = 3 ∨ k % 9 = 4 ∨ k % 9 = 5 ∨ k % 9 = 6 ∨ k % 9 = 7 ∨ k % 9 = 8 := by omega
  have hkind := fun w => kind_any w k
  rcases hk with hk | hk | hk | hk | hk | hk | hk | hk | hk
  · rw [hk] at hkind
    clear hk
    go_enter Try.func22, Try.ntmps22
    go_wp2_with (first | (go_at_call 9; refine (hkind _).mono ?_; rintro e w' ⟨rfl, rfl⟩) | (go_at_call 48; refine (wbyte_err _ _ _ e0 hF h0).mono ?_; rintro e w' ⟨rfl, rfl⟩))
    go_ret
    exact ⟨rfl, hT0⟩
  · rw [hk] at hkind
    clear hk
    go_enter Try.func22, Try.ntmps22
    go_wp2_with (first | (go_at_call 9; refine (hkind _).mono ?_; rintro e w' ⟨rfl, rfl⟩) | (go_at_call 49; refine (wbool_err _ _ _ e0 hF h0).mono ?_; rintro e w' ⟨rfl, rfl⟩))
    go_ret
    exact ⟨rfl, hT0⟩
  · rw [hk] at hkind
    clear hk
    go_enter Try.func22, Try.ntmps22
    go_wp2_with (first | (go_at_call 9; refine (hkind _).mono ?_; rintro e w' ⟨rfl, rfl⟩) | (go_at_call 50; refine (wu32_err _ _ _ e0 hF h0).mono ?_; rintro e w' ⟨rfl, rfl⟩))
    go_ret
    exact ⟨rfl, hT0⟩
  · rw [hk] at hkind
    clear hk
    go_enter Try.func22, Try.ntmps22
    go_wp2_with (first | (go_at_call 9; refine (hkind _).mono ?_; rintro e w' ⟨rfl, rfl⟩) | (go_at_call 51; refine (wu64_err _ _ _ e0 hF h0).mono ?_; rintro e w' ⟨rfl, rfl⟩))
    go_ret
    exact ⟨rfl, hT0⟩
  · rw [hk] at hkind
    clear hk
    go_enter Try.func22, Try.ntmps22
    go_wp2_with (first | (go_at_call 9; refine (hkind _).mono ?_; rintro e w' ⟨rfl, rfl⟩) | (go_at_call 52; refine (wvar_err _ _ _ e0 hF h0).mono ?_; rintro e w' ⟨rfl, rfl⟩))
    go_ret
    exact ⟨rfl, hT0⟩
  · rw [hk] at hkind
    clear hk
    go_enter Try.func22, Try.ntmps22
    go_wp2_with (first | (go_at_call 9; refine (hkind _).mono ?_; rintro e w' ⟨rfl, rfl⟩) | (go_at_call 29; refine (lent_any _ _ bs hb0 hle).mono ?_; rintro e w1 ⟨v1, g1, rfl, l1, l2, l3, l4⟩))
    have l4' := l4
    have hF1 := hF.turn l4 (fun _ _ q => q)
    have hb1 := hb0.turn_no l4
    have hc2 : w1.cell? ⟨w.heap.size, 2, none⟩ = some (.slice a bs.length c) := l4.keep (by rw [cell_of_row _ w.heap.size 2 _ 27 (0, 0) (heap_alloc_new w _)]; rfl) (fun q => q)
    have L := l1
    obtain ⟨g', cap', cur', rfl, _⟩ := l1
    clear l4
    go_wp2_with (first | (go_at_call 53; refine (wraw_err _ _ _ e0 hF1 h0).mono ?_; rintro e w' ⟨rfl, rfl⟩) | (go_at_call 30; refine (left_any _ _ _ bs g1 L l2 hb1 hle).mono ?_; rintro e w2 ⟨rfl, l5⟩))
    go_ret
    exact ⟨rfl, (hT0.then_no l4').trans l5 (fun i hi q => by subst q; simp at l3; omega)⟩
  · rw [hk] at hkind
    clear hk
    go_enter Try.func22, Try.ntmps22
    go_wp2_with (first | (go_at_call 9; refine (hkind _).mono ?_; rintro e w' ⟨rfl, rfl⟩) | (go_at_call 29; refine (lent_any _ _ bs hb0 hle).mono ?_; rintro e w1 ⟨v1, g1, rfl, l1, l2, l3, l4⟩))
    have l4' := l4
    have hF1 := hF.turn l4 (fun _ _ q => q)
    have hb1 := hb0.turn_no l4
    have hc2 : w1.cell? ⟨w.heap.size, 2, none⟩ = some (.slice a bs.length c) := l4.keep (by rw [cell_of_row _ w.heap.size 2 _ 27 (0, 0) (heap_alloc_new w _)]; rfl) (fun q => q)
    have L := l1
    obtain ⟨g', cap', cur', rfl, _⟩ := l1
    clear l4
    go_wp2_with (first | (go_at_call 54; refine (wbytes_err _ _ _ _ _ e0 hF1 h0).mono ?_; rintro e w' ⟨rfl, rfl⟩) | (go_at_call 30; refine (left_any _ _ _ bs g1 L l2 hb1 hle).mono ?_; rintro e w2 ⟨rfl, l5⟩))
    go_ret
    exact ⟨rfl, (hT0.then_no l4').trans l5 (fun i hi q => by subst q; simp at l3; omega)⟩
  · rw [hk] at hkind
    clear hk
    go_enter Try.func22, Try.ntmps22
    go_wp2_with (first | (go_at_call 9; refine (hkind _).mono ?_; rintro e w' ⟨rfl, rfl⟩) | (go_at_call 55; refine (wtext_err _ _ _ e0 hF h0).mono ?_; rintro e w' ⟨rfl, rfl⟩))
    go_ret
    exact ⟨rfl, hT0⟩
  · rw [hk] at hkind
    clear hk
    go_enter Try.func22, Try.ntmps22
    go_wp2_with (first | (go_at_call 9; refine (hkind _).mono ?_; rintro e w' ⟨rfl, rfl⟩) | (go_at_call 56; refine (wcount_err _ _ _ e0 hF h0).mono ?_; rintro e w' ⟨rfl, rfl⟩))
    go_ret
    exact ⟨rfl, hT0⟩

/-- What a value lays down: its bytes, the error. -/
def enc (k : Int) (n : Nat) (B : List UInt8) : List UInt8 × Int :=
  if k % 9 = 0 then (leB (n % 256) 1, 0)
  else if k % 9 = 1 then (leB (n % 2) 1, 0)
  else if k % 9 = 2 then (leB (n % 4294967296) 4, 0)
  else if k % 9 = 3 then (leB n 8, 0)
  else if k % 9 = 4 then (varE n, 0)
  else if k % 9 = 5 then (B, 0)
  else if k % 9 = 6 then (varE B.length ++ B, 0)
  else if k % 9 = 7 then (varE B.length ++ B, 0)
  else if n < 9223372036854775808 then (varE n, 0) else ([], 2)

/-- A Writer's state behind a value. -/
def wput (bs : List UInt8) (e : Int) (k : Int) (n : Nat) (B : List UInt8) : List UInt8 × Int := if e = 0 then (bs ++ (enc k n B).1, (enc k n B).2) else (bs, e)

theorem Bs.turn' {S : Nat → Prop} {w w' : World} {v : Value} {bs : List UInt8} (h : Bs w v bs) (ht : Turn S w w') (hn : bs ≠ [] → ∀ g, v.ownBlock = some g → ¬ S g) : Bs w' v bs := by
  by_cases hb : bs = []
  · subst hb
    rcases h with q | ⟨a, cap, q, h1, h2, _⟩
    · exact Or.inl q
    · exact Or.inr ⟨a, cap, q, h1, h2, fun j u hu => (by simp at hu)⟩
  · exact h.turn ht (hn hb)

theorem wrap64_big (n : Nat) (h1 : 9223372036854775808 ≤ n) (h2 : n < 18446744073709551616) : wrap64 (n : Int) < 0 := by
  unfold wrap64
  omega

def Pw (w : World) (k : Int) (n : Nat) (vb : Value) : World := w.alloc (.cells #[.int .i64 k, .int .u64 n, vb] 27)

theorem laid_back {w w' : World} {p : Nat} {v : Value} {bs bs' : List UInt8} {e e' : Int} {k : Int} {n : Nat} {vb : Value} (h0 : Wr w p v bs e) (h : Laid (Pw w k n vb) p v bs' e' w') : Laid w p v bs' e' w' := by
  obtain ⟨v', h1, h2, h3⟩ := h
  refine ⟨v', h1, ((Turn.refl no w).alloc _).of_no.trans h2 (fun _ _ q => q), ?_⟩
  rcases h3 with q | ⟨g, q, r⟩
  · exact Or.inl q
  · exact Or.inr ⟨g, q, by simp [Pw] at r; omega⟩

set_option maxRecDepth 100000 in
set_option maxHeartbeats 4000000 in
theorem lay_made (w : World) (p : Nat) (v : Value) (bs : List UInt8) (k : Int) (n : Nat) (hn : n < 18446744073709551616) (vb : Value) (B : List UInt8) (h : Wr w p v bs 0) (hb : Bs w vb B) (hnb : B ≠ [] → ∀ g, vb.ownBlock = some g → ¬ wfoot p v g) (hle : bs.length + B.length + 20 ≤ 140737488355328) :
    Calls Try.prog 22 #[.pointer (some ⟨p, 0, none⟩), .agg #[.int .i64 k, .int .u64 n, vb]] w fun e w' => e = .returned (.bool true) ∧ Laid w p v (bs ++ (enc k n B).1) (enc k n B).2 w' := by
  have hT0 : Turn no w (Pw w k n vb) := (Turn.refl _ _).alloc _
  have hW := h.turn_no hT0
  have hb0 := hb.turn_no hT0
  have hcv := bytes_text hb0
  obtain ⟨a, c, rfl⟩ := hb.slice
  unfold Pw at hcv
  have hk : k % 9 = 0 ∨ k % 9 = 1 ∨ k % 9 = 2 ∨ k % 9 = 3 ∨ k % 9 = 4 ∨ k % 9 = 5 ∨ k % 9 = 6 ∨ k % 9 = 7 ∨ k % 9 = 8 := by omega
  have hkind := fun w => kind_any w k
  rcases hk with hk | hk | hk | hk | hk | hk | hk | hk | hk
  · have hr : enc k n B = (leB (n % 256) 1, 0) := by unfold enc; rw [if_pos hk]
    rw [hr]
    rw [hk] at hkind
    clear hr hk
    go_enter Try.func22, Try.ntmps22
    go_wp2_with (first | (go_at_call 9; refine (hkind _).mono ?_; rintro e w' ⟨rfl, rfl⟩))
    rw [show ((n : Int) % 256 : Int) = ((n % 256 : Nat) : Int) from by omega]
    refine (wbyte_made _ _ _ bs hW (n % 256) (by omega) (by omega)).mono ?_
    rintro e w' ⟨rfl, k1⟩
    go_wp2_with fail
    go_ret
    exact ⟨rfl, laid_back h k1⟩
  · have hr : enc k n B = (leB (n % 2) 1, 0) := by unfold enc; rw [if_neg (by omega), if_pos hk]
    rw [hr]
    rw [hk] at hkind
    clear hr hk
    by_cases h2 : n % 2 = 1
    · have h2' : ((n : Int) % 2 == 1) = true := by simp; omega
      rw [h2]
      go_enter Try.func22, Try.ntmps22
      go_wp2_with (first | (go_at_call 9; refine (hkind _).mono ?_; rintro e w' ⟨rfl, rfl⟩))
      refine (wbool_t _ _ _ bs hW (by omega)).mono ?_
      rintro e w' ⟨rfl, k1⟩
      go_wp2_with fail
      go_ret
      exact ⟨rfl, laid_back h k1⟩
    · have h3 : n % 2 = 0 := by omega
      have h2' : ((n : Int) % 2 == 1) = false := by simp; omega
      rw [h3]
      go_enter Try.func22, Try.ntmps22
      go_wp2_with (first | (go_at_call 9; refine (hkind _).mono ?_; rintro e w' ⟨rfl, rfl⟩))
      refine (wbool_f _ _ _ bs hW (by omega)).mono ?_
      rintro e w' ⟨rfl, k1⟩
      go_wp2_with fail
      go_ret
      exact ⟨rfl, laid_back h k1⟩
  · have hr : enc k n B = (leB (n % 4294967296) 4, 0) := by unfold enc; rw [if_neg (by omega), if_neg (by omega), if_pos hk]
    rw [hr]
    rw [hk] at hkind
    clear hr hk
    go_enter Try.func22, Try.ntmps22
    go_wp2_with (first | (go_at_call 9; refine (hkind _).mono ?_; rintro e w' ⟨rfl, rfl⟩))
    rw [show ((n : Int) % 4294967296 : Int) = ((n % 4294967296 : Nat) : Int) from by omega]
    refine (wu32_made _ _ _ bs hW (n % 4294967296) (by omega) (by omega)).mono ?_
    rintro e w' ⟨rfl, k1⟩
    go_wp2_with fail
    go_ret
    exact ⟨rfl, laid_back h k1⟩
  · have hr : enc k n B = (leB n 8, 0) := by unfold enc; rw [if_neg (by omega), if_neg (by omega), if_neg (by omega), if_pos hk]
    rw [hr]
    rw [hk] at hkind
    clear hr hk
    go_enter Try.func22, Try.ntmps22
    go_wp2_with (first | (go_at_call 9; refine (hkind _).mono ?_; rintro e w' ⟨rfl, rfl⟩))
    refine (wu64_made _ _ _ bs hW n hn (by omega)).mono ?_
    rintro e w' ⟨rfl, k1⟩
    go_wp2_with fail
    go_ret
    exact ⟨rfl, laid_back h k1⟩
  · have hr : enc k n B = (varE n, 0) := by unfold enc; rw [if_neg (by omega), if_neg (by omega), if_neg (by omega), if_neg (by omega), if_pos hk]
    rw [hr]
    rw [hk] at hkind
    clear hr hk
    go_enter Try.func22, Try.ntmps22
    go_wp2_with (first | (go_at_call 9; refine (hkind _).mono ?_; rintro e w' ⟨rfl, rfl⟩))
    refine (var_made _ _ _ bs n hn hW (by omega)).mono ?_
    rintro e w' ⟨rfl, k1⟩
    go_wp2_with fail
    go_ret
    exact ⟨rfl, laid_back h k1⟩
  · have hr : enc k n B = (B, 0) := by unfold enc; rw [if_neg (by omega), if_neg (by omega), if_neg (by omega), if_neg (by omega), if_neg (by omega), if_pos hk]
    rw [hr]
    rw [hk] at hkind
    clear hr hk
    go_enter Try.func22, Try.ntmps22
    go_wp2_with (first | (go_at_call 9; refine (hkind _).mono ?_; rintro e w' ⟨rfl, rfl⟩))
    refine (lent_any _ _ B hb0 (by omega)).mono ?_
    rintro e w1 ⟨v1, g1, rfl, l1, l2, l3, l4⟩
    have hW1 := hW.turn_no l4
    have hc2 : w1.cell? ⟨w.heap.size, 2, none⟩ = some (.slice a B.length c) := l4.keep (by unfold Pw; rw [cell_of_row _ w.heap.size 2 _ 27 (0, 0) (heap_alloc_new w _)]; rfl) (fun q => q)
    have hsz : (Pw w k n (.slice a B.length c)).heap.size = w.heap.size + 1 := by simp [Pw]
    have hfg : ¬ wfoot p v g1 := by
      rintro (q | q)
      · have := hW.lt; omega
      · have := hW.own.lt q; omega
    have hfp : ¬ wfoot p v w.heap.size := by
      rintro (q | q)
      · have := h.lt; omega
      · have := h.own.lt q; omega
    have hbl := l1.bs
    have hnel : ∀ g, v1.ownBlock = some g → ¬ wfoot p v g := fun g q => by rw [l2] at q; cases q; exact hfg
    obtain ⟨g', cap', cur', hv1, hgr, z1, z2, z3, z4⟩ := l1
    subst hv1
    cases l2
    go_wp2_with fail
    refine (wraw_made _ _ _ bs hW1 _ B hbl (by omega)).mono ?_
    rintro e w2 ⟨rfl, v2, m1, m2, m3⟩
    have hc3 := m2.keep hc2 hfp
    have hgr2 := m2.obj hgr hfg
    have hbA : Bs w2 (.slice a B.length c) B := (hb0.turn_no l4).turn' m2 hnb
    have hlent : Lent w2 (.slice (some ⟨g', 0, none⟩) B.length cap') B := ⟨g', cap', cur', rfl, hgr2, z1, z2, z3, z4⟩
    go_wp2_with fail
    refine (left_any _ _ _ B g' hlent rfl hbA (by omega)).mono ?_
    rintro e w3 ⟨rfl, l5⟩
    go_wp2_with fail
    go_ret
    refine ⟨rfl, v2, m1.turn l5 (fun k q r => ?_), ((hT0.then_no l4).of_no.trans m2 (fun _ _ q => q)).trans l5 (fun i hi q => by exfalso; omega), ?_⟩
    · subst r
      rcases q with q | q
      · exact hfg (Or.inl q)
      · rcases m3 with r | ⟨g, r, hg⟩
        · rw [r] at q; exact hfg (Or.inr q)
        · rw [r] at q; cases q
          have := lt_of_obj hgr
          omega
    · rcases m3 with r | ⟨g, r, hg⟩
      · exact Or.inl r
      · exact Or.inr ⟨g, r, by have := l4.size; omega⟩
  · have hr : enc k n B = (varE B.length ++ B, 0) := by unfold enc; rw [if_neg (by omega), if_neg (by omega), if_neg (by omega), if_neg (by omega), if_neg (by omega), if_neg (by omega), if_pos hk]
    rw [hr]
    rw [hk] at hkind
    clear hr hk
    go_enter Try.func22, Try.ntmps22
    go_wp2_with (first | (go_at_call 9; refine (hkind _).mono ?_; rintro e w' ⟨rfl, rfl⟩))
    refine (lent_any _ _ B hb0 (by omega)).mono ?_
    rintro e w1 ⟨v1, g1, rfl, l1, l2, l3, l4⟩
    have hW1 := hW.turn_no l4
    have hc2 : w1.cell? ⟨w.heap.size, 2, none⟩ = some (.slice a B.length c) := l4.keep (by unfold Pw; rw [cell_of_row _ w.heap.size 2 _ 27 (0, 0) (heap_alloc_new w _)]; rfl) (fun q => q)
    have hsz : (Pw w k n (.slice a B.length c)).heap.size = w.heap.size + 1 := by simp [Pw]
    have hfg : ¬ wfoot p v g1 := by
      rintro (q | q)
      · have := hW.lt; omega
      · have := hW.own.lt q; omega
    have hfp : ¬ wfoot p v w.heap.size := by
      rintro (q | q)
      · have := h.lt; omega
      · have := h.own.lt q; omega
    have hbl := l1.bs
    have hnel : ∀ g, v1.ownBlock = some g → ¬ wfoot p v g := fun g q => by rw [l2] at q; cases q; exact hfg
    obtain ⟨g', cap', cur', hv1, hgr, z1, z2, z3, z4⟩ := l1
    subst hv1
    cases l2
    go_wp2_with fail
    refine (wbytes_made _ _ _ bs hW1 _ _ B hbl hnel (by omega)).mono ?_
    rintro e w2 ⟨rfl, v2, m1, m2, m3⟩
    have hc3 := m2.keep hc2 hfp
    have hgr2 := m2.obj hgr hfg
    have hbA : Bs w2 (.slice a B.length c) B := (hb0.turn_no l4).turn' m2 hnb
    have hlent : Lent w2 (.slice (some ⟨g', 0, none⟩) B.length cap') B := ⟨g', cap', cur', rfl, hgr2, z1, z2, z3, z4⟩
    go_wp2_with fail
    refine (left_any _ _ _ B g' hlent rfl hbA (by omega)).mono ?_
    rintro e w3 ⟨rfl, l5⟩
    go_wp2_with fail
    go_ret
    refine ⟨rfl, v2, m1.turn l5 (fun k q r => ?_), ((hT0.then_no l4).of_no.trans m2 (fun _ _ q => q)).trans l5 (fun i hi q => by exfalso; omega), ?_⟩
    · subst r
      rcases q with q | q
      · exact hfg (Or.inl q)
      · rcases m3 with r | ⟨g, r, hg⟩
        · rw [r] at q; exact hfg (Or.inr q)
        · rw [r] at q; cases q
          have := lt_of_obj hgr
          omega
    · rcases m3 with r | ⟨g, r, hg⟩
      · exact Or.inl r
      · exact Or.inr ⟨g, r, by have := l4.size; omega⟩
  · have hr : enc k n B = (varE B.length ++ B, 0) := by unfold enc; rw [if_neg (by omega), if_neg (by omega), if_neg (by omega), if_neg (by omega), if_neg (by omega), if_neg (by omega), if_neg (by omega), if_pos hk]
    rw [hr]
    rw [hk] at hkind
    clear hr hk
    go_enter Try.func22, Try.ntmps22
    go_wp2_with (first | (go_at_call 9; refine (hkind _).mono ?_; rintro e w' ⟨rfl, rfl⟩))
    refine (wtext_made _ _ _ bs hW ⟨B.toArray⟩ (by show bs.length + B.toArray.size + 10 ≤ _; simp; omega)).mono ?_
    rintro e w' ⟨rfl, k1⟩
    have e1 : (⟨B.toArray⟩ : ByteArray).size = B.length := by show B.toArray.size = _; simp
    rw [e1] at k1
    go_wp2_with fail
    go_ret
    exact ⟨rfl, laid_back h k1⟩
  · have hr : enc k n B = if n < 9223372036854775808 then (varE n, 0) else ([], 2) := by unfold enc; rw [if_neg (by omega), if_neg (by omega), if_neg (by omega), if_neg (by omega), if_neg (by omega), if_neg (by omega), if_neg (by omega), if_neg (by omega)]
    rw [hr]
    rw [hk] at hkind
    clear hr hk
    by_cases h2 : n < 9223372036854775808
    · have h2' : (n : Int) < 9223372036854775808 := by omega
      rw [if_pos h2]
      go_enter Try.func22, Try.ntmps22
      go_wp2_with (first | (go_at_call 9; refine (hkind _).mono ?_; rintro e w' ⟨rfl, rfl⟩))
      refine (wcount_good _ _ _ bs hW n h2 (by omega)).mono ?_
      rintro e w' ⟨rfl, k1⟩
      go_wp2_with fail
      go_ret
      exact ⟨rfl, laid_back h k1⟩
    · rw [if_neg h2, List.append_nil]
      go_enter Try.func22, Try.ntmps22
      go_wp2_with (first | (go_at_call 9; refine (hkind _).mono ?_; rintro e w' ⟨rfl, rfl⟩))
      refine (wcount_neg _ _ _ bs hW _ (wrap64_big n (by omega) hn)).mono ?_
      rintro e w' ⟨rfl, k1⟩
      go_wp2_with fail
      go_ret
      exact ⟨rfl, laid_back h k1⟩
end Go.Proofs.Ytfjdojodbhmmaaa
