/- Sum, Leaf, Inner; alive. -/
import Derived.Test.YtieoomdbijpdhaaDoorD6
namespace Go.Proofs.YtieoomdbijpdhaaDoor
open Go.RowKit
set_option linter.unusedVariables false

/-- A digest as a value. -/
def hv (bs : List UInt8) : Array Value := ((hashOf bs).map bv).toArray
theorem hv_size (bs : List UInt8) : (hv bs).size = 32 := by simp [hv, hashOf_len]
theorem hv_one (bs : List UInt8) : (hv bs).all (·.oneCell') = true := by simp [hv, bv, Value.oneCell']
theorem hv_info (bs : List UInt8) : (Tryd.prog.info? 23).map (·.size) = some (hv bs).size := by rw [hv_size]; exact size35
theorem hv_get (bs : List UInt8) (k : Nat) (hk : k < 32) : (hv bs)[k]? = some (bv (hashAt (shaOf bs) k)) := by simp [hv, hashOf, hk]

theorem Row.newAt (w : World) (cs : Array Value) (e : TypeId) (g : Nat) (h : g = w.heap.size) : Row (w.alloc (.cells cs e)) g cs e := by subst h; exact Row.new w cs e

/-- One, two, three pieces in new blocks: what sumOf answers of them. -/
theorem sumOf_list (w : World) (l : List (Value × List UInt8)) (hl0 : l ≠ []) (hll : l.length ≤ 1000) (hl : Laid1 w) (h2 : 2 ≤ w.heap.size) (hsz : (joined l).length + 72 ≤ 281474976710656) (W : World) (T : Turn no w W) (g : Nat) (e : TypeId) (hg : Row W g (l.map (·.1)).toArray e) (hb : ∀ x ∈ l, Bs W x.1 x.2) :
    Calls Tryd.prog 52 #[.slice (some ⟨g, 0, none⟩) l.length l.length] W fun e w' => e = .returned (.agg (hv (joined l))) ∧ Turn no W w' :=
  sumOf_any W g 0 l.length l (fun j x hx => ⟨by rw [Nat.zero_add]; exact hg.cell j _ (by simp [hx]), hb x (List.mem_of_getElem? hx)⟩) hl0 hll (hl.turn T (fun q => q)) (by have := T.size; omega) hsz

set_option maxRecDepth 100000 in
set_option maxHeartbeats 4000000 in
theorem sum19 (w : World) (va : Value) (bs : List UInt8) (hb : Bs w va bs) (hl : Laid1 w) (h2 : 2 ≤ w.heap.size) (hsz : bs.length + 72 ≤ 281474976710656) :
    Calls Tryd.prog 77 #[va] w fun e w' => e = .returned (.agg (hv bs)) ∧ Turn no w w' := by
  obtain ⟨a, c, hva⟩ := hb.slice
  have hj : joined [(va, bs)] = bs := by simp [joined]
  have hcall := sumOf_list w [(va, bs)] (by simp) (by simp) hl h2 (by rw [hj]; exact hsz)
  rw [hj] at hcall
  have h1 := hv_one bs
  have hs := hv_size bs
  have hi := hv_info bs
  generalize hE : hv bs = H at *
  have HE : Hid (hv bs = H) := hE
  clear hj hE
  subst hva
  go_enter Tryd.func77, Tryd.ntmps77
  go_wp2_with fail
  refine (hcall _ (((Turn.refl no w).alloc _).alloc _) (w.heap.size + 1) 60 (Row.newAt _ _ _ _ (by simp)) (fun x hx => by simp at hx; subst hx; exact hb.turn_no (((Turn.refl no w).alloc _).alloc _))).mono ?_
  rintro e w5 ⟨rfl, t5⟩
  obtain ⟨z, Rz, hz⟩ : ∃ z, Row w5 w.heap.size z 23 ∧ z.size = 32 := ⟨_, ((Row.new w _ 23).alloc _).turn t5 (fun q => q), rfl⟩
  have T5 : Turn no w w5 := (((Turn.refl no w).alloc _).alloc _).then_no t5
  clear hcall t5
  go_wp2_with (refine wpList_store_row rfl 23 (.tmp 2) (.tmp 5) rfl w.heap.size H rfl rfl 23 z Rz hi (by omega) h1 ?_)
  refine bodyPost_ret (v := .agg H) ?_ rfl ⟨rfl, T5.setRow _ _ (fun q => by omega)⟩
  exact results_cell_row (P := Tryd.prog) Tryd.results77 _ _ w.heap.size 23 H (0, 0) _ rfl (setRow_heap _ _ _ _ _ _ Rz) Tryd.underlying23 rfl hi

set_option maxRecDepth 100000 in
set_option maxHeartbeats 4000000 in
theorem leaf20 (w : World) (va : Value) (bs : List UInt8) (hb : Bs w va bs) (hl : Laid1 w) (h2 : 2 ≤ w.heap.size) (hsz : bs.length + 73 ≤ 281474976710656) :
    Calls Tryd.prog 78 #[va] w fun e w' => e = .returned (.agg (hv (0 :: bs))) ∧ Turn no w w' := by
  obtain ⟨a, c, hva⟩ := hb.slice
  have hj : joined [(.slice (some ⟨w.heap.size + 1, 0, none⟩) 1 1, [0]), (va, bs)] = 0 :: bs := by simp [joined]
  have hcall := sumOf_list w [(.slice (some ⟨w.heap.size + 1, 0, none⟩) 1 1, [0]), (va, bs)] (by simp) (by simp) hl h2 (by rw [hj]; simp; omega)
  rw [hj] at hcall
  have h1 := hv_one (0 :: bs)
  have hs := hv_size (0 :: bs)
  have hi := hv_info (0 :: bs)
  generalize hE : hv (0 :: bs) = H at *
  have HE : Hid (hv (0 :: bs) = H) := hE
  clear hj hE
  subst hva
  go_enter Tryd.func78, Tryd.ntmps78
  go_wp2_with fail
  have T0 : ∀ o1 o2 o3, Turn no w (((w.alloc o1).alloc o2).alloc o3) := fun o1 o2 o3 => (((Turn.refl no w).alloc _).alloc _).alloc _
  refine (hcall _ (T0 _ _ _) (w.heap.size + 1 + 1) 60 (Row.newAt _ _ _ _ (by simp)) (fun x hx => by
    simp at hx
    rcases hx with rfl | rfl
    · refine Or.inr ⟨⟨w.heap.size + 1, 0, none⟩, 1, rfl, by simp, by simp [maxLen], fun j u hu => ?_⟩
      have hj : j = 0 := by have := (List.getElem?_eq_some_iff.1 hu).1; simpa using this
      subst hj
      simp at hu
      subst hu
      rw [Addr.add_zero']
      exact (Row.alloc (Row.newAt _ _ _ _ (by simp)) _).cell 0 _ rfl
    · exact hb.turn_no (T0 _ _ _))).mono ?_
  rintro e w5 ⟨rfl, t5⟩
  obtain ⟨z, Rz, hz⟩ : ∃ z, Row w5 w.heap.size z 23 ∧ z.size = 32 := ⟨_, (((Row.new w _ 23).alloc _).alloc _).turn t5 (fun q => q), rfl⟩
  have T5 : Turn no w w5 := (T0 _ _ _).then_no t5
  clear hcall t5 T0
  go_wp2_with (refine wpList_store_row rfl 23 (.tmp 2) (.tmp 6) rfl w.heap.size H rfl rfl 23 z Rz hi (by omega) h1 ?_)
  refine bodyPost_ret (v := .agg H) ?_ rfl ⟨rfl, T5.setRow _ _ (fun q => by omega)⟩
  exact results_cell_row (P := Tryd.prog) Tryd.results78 _ _ w.heap.size 23 H (0, 0) _ rfl (setRow_heap _ _ _ _ _ _ Rz) Tryd.underlying23 rfl hi

/-- New bytes, marked as coming of a text. -/
def mark (w : World) (cs : Array Value) : World := (w.alloc (.cells cs 5)).freeze ⟨w.heap.size, cs.size, none⟩ 1
theorem conv22 (w : World) (cs : Array Value) (n c : Nat) : (convert 60 60 (.slice (some ⟨w.heap.size, 0, none⟩) n c)).run Tryd.prog (w.alloc (.cells cs 5)) = .ok (.slice (some ⟨w.heap.size, 0, none⟩) n c) (mark w cs) := by
  have hsh : (w.alloc (.cells cs 5)).shape? w.heap.size = some (5, cs.size) := by
    simp [World.shape?, World.alloc, -World.alloc_eq]
  simp [convert, run_underlying Tryd.underlying60, run_underlying Tryd.underlying5, markStringish, hsh, mark]
theorem mark_new (w : World) (cs : Array Value) : (mark w cs).heap[w.heap.size]? = some (.cells cs 5 (cs.size, cs.size + 1)) := by
  simp [mark, World.freeze, World.alloc, -World.alloc_eq, Array.getElem_modify]
theorem mark_turn (w : World) (cs : Array Value) : Turn no w (mark w cs) :=
  ⟨rfl, rfl, rfl, by simp [mark, World.freeze, World.alloc, -World.alloc_eq], fun k hk _ => by
    have : w.heap.size ≠ k := by omega
    simp [mark, World.freeze, World.alloc, -World.alloc_eq, Array.getElem?_modify, Array.getElem?_push, this, this.symm]⟩
theorem mark_cell (w : World) (cs : Array Value) (j : Nat) : (mark w cs).cell? ⟨w.heap.size, j, none⟩ = cs[j]? := cell_of_row _ _ j cs 5 _ (mark_new w cs)

theorem empty0 : hashAt (shaOf []) 0 = 227 := by decide +kernel
theorem empty31 : hashAt (shaOf []) 31 = 85 := by decide +kernel
theorem abc0 : hashAt (shaOf [97, 98, 99]) 0 = 186 := by decide +kernel
theorem abc31 : hashAt (shaOf [97, 98, 99]) 31 = 173 := by decide +kernel

end Go.Proofs.YtieoomdbijpdhaaDoor

