/- A script; play. -/
import Derived.Test.YtnlcngcilojnkabDoorP9
import Derived.Test.YtnlcngcilojnkabDoorP10
namespace Go.Proofs.YtnlcngcilojnkabDoor
open Go.RowKit Go.Maps Go.MuLone
set_option linter.unusedVariables false

def Script (w : World) (v : Value) (l : List Opx) : Prop :=
  (v = .slice none 0 0 ∧ l = []) ∨ ∃ a cap, v = .slice (some a) l.length cap ∧ l.length ≤ cap ∧ cap ≤ maxLen ∧
    ∀ j x, l[j]? = some x → ∃ b off, a = ⟨b, off, none⟩ ∧ w.rangeAt b (off + j * 23) (opC x) ∧ Bs w x.va x.bs ∧ x.ok
theorem Script.slice {w : World} {v : Value} {l : List Opx} (h : Script w v l) : ∃ a cap, v = .slice a l.length cap ∧ (∀ j x, l[j]? = some x → ∃ b off, a = some ⟨b, off, none⟩ ∧ w.rangeAt b (off + j * 23) (opC x) ∧ Bs w x.va x.bs ∧ x.ok) ∧ l.length ≤ cap ∧ l.length ≤ 9223372036854775807 := by
  rcases h with ⟨rfl, rfl⟩ | ⟨a, cap, rfl, h1, h2, h3⟩
  · exact ⟨none, 0, rfl, fun j x hx => by simp at hx, by simp, by simp⟩
  · refine ⟨some a, cap, rfl, fun j x hx => ?_, h1, by simp [maxLen] at h2; omega⟩
    obtain ⟨b, off, rfl, h⟩ := h3 j x hx
    exact ⟨b, off, rfl, h⟩
theorem rangeAt_turn {w w' : World} {b o : Nat} {cs : List Value} (h : w.rangeAt b o cs) (t : Turn no w w') : w'.rangeAt b o cs := fun j v hv => t.keep (h j v hv) (fun q => q)
def Z33 : Array Value := #[.int .i64 0, .int .i64 0, .int .i64 0, .int .u64 0, .slice none 0 0, .int .u8 0, .int .u8 0, .int .u8 0, .int .u8 0, .int .u8 0, .int .u8 0, .int .u8 0, .int .u8 0, .int .u8 0, .int .u8 0, .int .u8 0, .int .u8 0, .int .u8 0, .int .u8 0, .int .u8 0, .int .u8 0, .int .i64 0, .bool false]
/-- What holds at the head of each round. -/
def Rnd (w wr : World) (i : Nat) : Prop := ∃ d vq Q, Tw w.heap.size wr w.heap.size d vq Q ∧ (∀ j, (d j).E.length + (d j).R.length ≤ i) ∧ Q.length ≤ i ∧ Turn no w wr
theorem Rnd.next {w wr wr' : World} {i : Nat} {d : Nat → Pd} {Q : List (List UInt8)} (hd : ∀ j, (d j).E.length + (d j).R.length ≤ i) (hQ : Q.length ≤ i) (T : Turn no w wr) (h : After w.heap.size wr w.heap.size d Q wr') : Rnd w wr' (i + 1) := by
  obtain ⟨d', vq', Q', h', g, q, t⟩ := h
  exact ⟨d', vq', Q', h', fun j => by have := (g j).2.2; have := hd j; omega, by omega, T.trans t (fun b hb q => by have q : w.heap.size ≤ b := q; omega)⟩
set_option maxRecDepth 100000 in
set_option maxHeartbeats 4000000 in
theorem play13 (w : World) (v : Value) (l : List Opx) (hS : Script w v l) (lo hi : Int) (hl0 : Laid0 w) (hl1 : Laid1 w) (h2 : 2 ≤ w.heap.size) (hl : l.length ≤ 1599289640401) :
    Calls Tryd.prog 13 #[v, .int .i64 lo, .int .i64 hi] w fun e w' => e = .returned (.bool true) ∧ Turn no w w' := by
  obtain ⟨va, vc, hv, hcells, hcap, hle⟩ := hS.slice
  subst hv
  clear hS
  have cb := begin9 w
  have Hl0 := shutX hl0
  have Hl1 := shutX hl1
  clear hl0 hl1
  obtain ⟨n, hn⟩ : ∃ n, Shut (l.length = n) := ⟨_, rfl⟩
  rw [show l.length = n from hn.out] at hcap hle hl ⊢
  go_enter Tryd.func13, Tryd.ntmps13
  go_wp2_with (go_at_call 9; refine cb.mono ?_; rintro e w1 ⟨rfl, d, hT, hd, t1⟩)
  have R0 : Rnd w w1 0 := ⟨d, _, [], hT, fun j => by rw [(hd j).1, (hd j).2]; simp, by simp, t1⟩
  obtain ⟨tw, htw⟩ : ∃ t, w.heap.size = t := ⟨_, rfl⟩
  rw [htw]
  clear cb hT hd t1
  go_loopw [8, 9] (fun b c wr => ∃ i : Nat, i ≤ n ∧ b = .bool true ∧ c = .int .i64 i ∧ Rnd w wr i) (fun _ c _ => n - (intOf c).toNat)
  case atStart => exact ⟨0, by omega, rfl, rfl, R0⟩
  case round =>
    clear R0
    obtain ⟨i, hi', rfl, rfl, d', vq, Q, hT, hd, hQ, T⟩ := hrel
    by_cases hlt : i < n
    · have hlt' : (i : Int) < (n : Int) := by omega
      obtain ⟨x, hx⟩ : ∃ x, l[i]? = some x := ⟨l[i]'(by rw [hn.out]; exact hlt), List.getElem?_eq_getElem _⟩
      obtain ⟨b, off, rfl, hr, hb, hok⟩ := hcells i x hx
      have hr1 := rangeAt_turn hr T
      have s33l : (Tryd.prog.info? 33).map (·.size) = some (opC x).length := by rw [opC_len hok]; exact size33c
      have s33 := sizeOp hok
      have o33 : (opC x).toArray.all (·.oneCell') = true := by
        simp [opC, bv, Value.oneCell']
        obtain ⟨a', c', e⟩ := hb.slice
        rw [e]
      have z33 : Z33.size = (opC x).toArray.size := by simp [opC_len hok]; rfl
      have hstep := fun W (t : Turn no wr W) => step10 (hT.turn_no t) x hok (hb.turn_no (T.then_no t)) (Hl0.out.turn (T.then_no t) (fun q => q)) (Hl1.out.turn (T.then_no t) (fun q => q)) h2 (fun k _ => by have := hd k; omega) (by omega)
      have hfin := fun W' (h : After w.heap.size wr w.heap.size d' Q W') => Rnd.next hd hQ T h
      rw [htw] at hstep hfin
      have Hfin := shutX hfin
      have hC : (opC x).toArray = (opC x).toArray := rfl
      clear hfin hT hd hQ hr hx hcells hb hok
      generalize hCC : (opC x) = C at *
      go_upto_region 8 with (first | (refine wpList_load_mid rfl 33 (.tmp 25) rfl b (off + i * 23) rfl C _ hr1 Tryd.underlying33 rfl s33l ?_) | (refine wpList_store_anyX rfl rfl 33 (.tmp 10) (.tmp 26) rfl wr.heap.size C.toArray rfl rfl 33 Z33 (Row.new wr _ 33) s33 z33 o33 ?_; intro w3 R3 T3))
      have t3 : Turn no wr w3 := ((Turn.refl no wr).alloc _).trans T3 (fun k hk q => by have q : k = wr.heap.size := q; omega)
      have cst := hstep w3 t3
      have Ht3 := shutX t3
      clear T3 t3 hstep
      clear hr1 s33l o33 z33 hC Hl0 Hl1
      obtain ⟨CA, hCA⟩ : ∃ A, C.toArray = A := ⟨_, rfl⟩
      rw [hCA] at R3 cst s33
      try rw [hCA]
      clear hCA hCC
      obtain ⟨n0, hn0⟩ : ∃ z, wr.heap.size = z := ⟨_, rfl⟩
      rw [hn0] at R3
      try rw [hn0]
      go_upto_region 9 with (first | (guard_target =~ wpList _ _ _ ({ dst := _, op := Op.load 33 _, .. } :: _) _ _; refine wpList_load_row rfl 33 (.tmp 10) rfl n0 rfl 33 CA _ _ R3 Tryd.underlying33 rfl s33 ?_) | (go_at_call 10; refine cst.mono ?_; rintro e w4 ⟨rfl, A4⟩))
      clear cst R3 s33
      go_wp2_with fail
      refine ⟨⟨i + 1, by omega, rfl, ?_, Hfin.out _ (A4.pre Ht3.out)⟩, ?_⟩
      · first | rfl | (simp only [intOf]; omega) | (congr 1)
      · simp only [intOf]; omega
    · obtain rfl : i = n := by omega
      have hlt' : ¬ (i : Int) < (i : Int) := by omega
      go_wp2_with fail
      go_ret
      exact ⟨rfl, T⟩
end Go.Proofs.YtnlcngcilojnkabDoor
