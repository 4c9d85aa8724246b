/- Hashers that were made: goingOn, New. -/
import Derived.Test.YtnlcngcilojnkabDoorH1
import Derived.Test.YtnlcngcilojnkabDoorD8
namespace Go.Proofs.YtnlcngcilojnkabDoor
open Go.RowKit
set_option linter.unusedVariables false

theorem foldl_lay : ∀ (l : List Value) (k : Nat) (z : Array Value) (j : Nat), 1 + k + l.length ≤ z.size →
    ((l.zipIdx k).foldl (fun (cs : Array Value) (x : Value × Nat) => cs.setIfInBounds (1 + x.snd) x.fst) z)[j]? = if 1 + k ≤ j ∧ j < 1 + k + l.length then l[j - (1 + k)]? else z[j]?
  | [], k, z, j, _ => by simp; omega
  | v :: l, k, z, j, h => by
    simp only [List.zipIdx_cons, List.foldl_cons]
    rw [foldl_lay l (k + 1) _ j (by simp at h ⊢; omega)]
    by_cases h1 : 1 + (k + 1) ≤ j ∧ j < 1 + (k + 1) + l.length
    · rw [if_pos h1, if_pos (by simp; omega)]
      obtain ⟨i, rfl⟩ : ∃ i, j = i + (1 + k) + 1 := ⟨j - (1 + k) - 1, by omega⟩
      rw [show i + (1 + k) + 1 - (1 + (k + 1)) = i by omega, show i + (1 + k) + 1 - (1 + k) = i + 1 by omega, List.getElem?_cons_succ]
    · rw [if_neg h1]
      by_cases h2 : j = 1 + k
      · subst h2
        rw [Array.getElem?_setIfInBounds_self_of_lt (by simp at h; omega), if_pos (by simp)]
        simp
      · rw [Array.getElem?_setIfInBounds_ne (by omega), if_neg (by simp; omega)]
theorem foldl_lay_size : ∀ (l : List Value) (k : Nat) (z : Array Value), ((l.zipIdx k).foldl (fun (cs : Array Value) (x : Value × Nat) => cs.setIfInBounds (1 + x.snd) x.fst) z).size = z.size
  | [], k, z => rfl
  | v :: l, k, z => by
    simp only [List.zipIdx_cons, List.foldl_cons]
    rw [foldl_lay_size l (k + 1)]
    simp

theorem z31 : Tryd.zeroCells140.size = 74 := by kernel_rfl
theorem z31_0 : Tryd.zeroCells140[0]? = some (.pointer none) := by kernel_rfl
theorem lay31 (arr : Array Value) (hs : arr.size = 73) : Array.foldl (fun (cs : Array Value) (x : Value × Nat) => cs.setIfInBounds (1 + x.snd) x.fst) Tryd.zeroCells140 arr.zipIdx 0 73 = (arr.toList.zipIdx 0).foldl (fun (cs : Array Value) (x : Value × Nat) => cs.setIfInBounds (1 + x.snd) x.fst) Tryd.zeroCells140 := by
  have : arr.zipIdx.size = 73 := by simpa using hs
  rw [← this, ← Array.foldl_toList]
  simp

/-- A Hasher that was made and has taken this text. -/
def Hs (w : World) (p : Nat) (text : List UInt8) : Prop := MxH w p 1 140 74 (.pointer (some ⟨p, 0, none⟩)) text

set_option maxRecDepth 100000 in
set_option maxHeartbeats 4000000 in
theorem goingOn_any (w : World) (arr : Array Value) (rest text : List UInt8) (hs : arr.size = 73) (hm : MxA arr 0 (shaW text) rest text.length) (hr : rest.take (text.length % 64) = tailOf text) :
    Calls Tryd.prog 76 #[.agg arr] w fun e w' => e = .returned (.pointer (some ⟨w.heap.size + 1, 0, none⟩)) ∧ Hs w' (w.heap.size + 1) text ∧ Turn no w w' := by
  have hi : (Tryd.prog.info? 137).map (·.size) = some arr.size := by rw [hs]; exact size29
  have R := Row.new w arr 137
  obtain ⟨NB, hfb⟩ : ∃ NB, Array.foldl (fun (cs : Array Value) (x : Value × Nat) => cs.setIfInBounds (1 + x.snd) x.fst) Tryd.zeroCells140 arr.zipIdx 0 73 = NB := ⟨_, rfl⟩
  have hnb := hfb
  rw [lay31 arr hs] at hnb
  have hsz : NB.size = 74 := by rw [← hnb, foldl_lay_size]; exact z31
  have hal : arr.toList.length = 73 := by simpa using hs
  have hget : ∀ j, NB[j]? = if 1 ≤ j ∧ j < 74 then arr[j - 1]? else Tryd.zeroCells140[j]? := fun j => by
    rw [← hnb, foldl_lay _ _ _ _ (by rw [hal, z31]; omega)]
    rw [hal]
    simp only [Nat.add_zero]
    by_cases hc : 1 ≤ j ∧ j < 74
    · rw [if_pos (by omega), if_pos hc]; simp
    · rw [if_neg (by omega), if_neg hc]
  have hn0 : NB[0]? = some (.pointer none) := by rw [hget, if_neg (by omega)]; exact z31_0
  have hH : ∀ W, Row W (w.heap.size + 1) (NB.setIfInBounds 0 (.pointer (some ⟨w.heap.size + 1, 0, none⟩))) 140 → Hs W (w.heap.size + 1) text := fun W h => by
    have hg : ∀ j, 1 ≤ j → j < 74 → (NB.setIfInBounds 0 (.pointer (some ⟨w.heap.size + 1, 0, none⟩)))[j]? = arr[j - 1]? := fun j h1 h2 => by
      rw [Array.getElem?_setIfInBounds_ne (by omega), hget, if_pos ⟨h1, h2⟩]
    refine ⟨_, rest, h, ⟨by simpa using hsz, by rw [Array.getElem?_setIfInBounds_self_of_lt (by omega)]⟩, ⟨fun j hj => ?_, hm.len, fun j hj => ?_, ?_⟩, hr⟩
    · rw [hg _ (by omega) (by omega), show 1 + j - 1 = 0 + j by omega]; exact hm.words j hj
    · rw [hg _ (by omega) (by omega), show 1 + 8 + j - 1 = 0 + 8 + j by omega]; exact hm.rest j hj
    · rw [hg _ (by omega) (by omega)]; exact hm.taken
  have hN0 : NB[0]'(by omega) = .pointer none := by rw [Array.getElem?_eq_getElem (by omega)] at hn0; exact Option.some.inj hn0
  clear hget hnb hm hn0 hal
  go_enter Tryd.func76, Tryd.ntmps76
  go_wp2_with (refine wpList_load_row rfl 137 (.tmp 1) rfl w.heap.size rfl 137 arr (0, 0) _ R Tryd.underlying137 rfl hi ?_)
  go_ret
  refine ⟨rfl, hH _ (Row.newAt _ _ _ _ (by simp)), ((Turn.refl no w).alloc _).alloc _⟩

set_option maxRecDepth 100000 in
set_option maxHeartbeats 4000000 in
theorem new_any (w : World) : Calls Tryd.prog 65 #[] w fun e w' => ∃ p, e = .returned (.pointer (some ⟨p, 0, none⟩)) ∧ w.heap.size ≤ p ∧ Hs w' p [] ∧ Turn no w w' := by
  have hg := fun W => goingOn_any W mx0 (List.replicate 64 0) [] mx0_size (by simpa [shaW, shaP] using mx0_is) (by simp [tailOf])
  go_enter Tryd.func65, Tryd.ntmps65
  go_wp2_with fail
  refine (newMixer_any _).mono ?_
  rintro e w1 ⟨rfl, t1⟩
  go_wp2_with fail
  refine (hg _).mono ?_
  rintro e w2 ⟨rfl, h2, t2⟩
  go_wp2_with fail
  go_ret
  exact ⟨_, rfl, by have := t1.size; omega, h2, t1.then_no t2⟩

theorem eql23_same (a : Addr) (w : World) : (binOp .eql 122 (.pointer (some a)) (.pointer (some a))).run Tryd.prog w = .ok (.bool true) w := by
  obtain ⟨j, hj⟩ := Option.isSome_iff_exists.1 (show (Tryd.prog.info? 140).isSome = true by kernel_rfl)
  exact run_eql_ptr_same w a Tryd.underlying122 hj
theorem Hs.self {w : World} {p : Nat} {text : List UInt8} (h : Hs w p text) : w.cell? ⟨p, 0, none⟩ = some (.pointer (some ⟨p, 0, none⟩)) := by
  obtain ⟨arr, rest, hr, ⟨_, h0⟩, _⟩ := h
  exact hr.cell 0 _ h0
theorem Hs.turn {S : Nat → Prop} {w w' : World} {p : Nat} {text : List UInt8} (h : Hs w p text) (t : Turn S w w') (hn : ¬ S p) : Hs w' p text := by
  obtain ⟨arr, rest, hr, r⟩ := h
  exact ⟨arr, rest, hr.turn t hn, r⟩

set_option maxRecDepth 100000 in
set_option maxHeartbeats 1000000 in
theorem made_made (w : World) (p : Nat) (text : List UInt8) (h : Hs w p text) : Calls Tryd.prog 78 #[.pointer (some ⟨p, 0, none⟩)] w fun e w' => e = .returned (.bool true) ∧ w' = w := by
  have h0 := h.self
  have e1 := fun a w => eql23_same a w
  go_enter Tryd.func78, Tryd.ntmps78
  go_wp2_with fail
  go_ret
  exact ⟨rfl, rfl⟩

set_option maxRecDepth 100000 in
set_option maxHeartbeats 1000000 in
theorem write_made (w : World) (p : Nat) (text : List UInt8) (va : Value) (bs : List UInt8) (h : Hs w p text) (hb : Bs w va bs) (hne : bs ≠ [] → ∀ g, va.ownBlock = some g → g ≠ p) (hl : Laid1 w) (hp : p ≠ 1) (hsz : text.length + bs.length ≤ 281474976710656) :
    Calls Tryd.prog 66 #[.pointer (some ⟨p, 0, none⟩), va] w fun e w' => e = .returned (.tuple #[]) ∧ Hs w' p (text ++ bs) ∧ Turn (fun k => k = p) w w' := by
  have hm := made_made w p text h
  have ht := take_hs w p 1 140 text va bs 74 (.pointer (some ⟨p, 0, none⟩)) (by omega) h hb hne hl hp hsz
  obtain ⟨a, c, rfl⟩ := hb.slice
  go_enter Tryd.func66, Tryd.ntmps66
  go_wp2_with fail
  refine hm.mono ?_
  rintro e w1 ⟨rfl, rfl⟩
  go_wp2_with fail
  refine ht.mono ?_
  rintro e w2 ⟨rfl, h2, t2⟩
  go_wp2_with fail
  go_end0
  exact ⟨rfl, h2, t2⟩
end Go.Proofs.YtnlcngcilojnkabDoor
