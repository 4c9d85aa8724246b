/- A ledger in memory; whole. -/
import Derived.Test.YtdbfbdhnjbmmjaaA2
import Derived.Deep.CutRange
import Derived.Laws.Bits64
namespace Go.Proofs.Ytdbfbdhnjbmmjaa
open Go.RowKit
set_option linter.unusedVariables false

/-- A row. -/
structure Rl where
  ht : Nat
  ad : Nat
  born : Nat
  amt : Nat
def Rl.ok (m : Rl) : Prop := m.ht < 18446744073709551616 ∧ m.ad < 18446744073709551616 ∧ m.born < 18446744073709551616 ∧ m.amt < 18446744073709551616
/-- A list of rows, wherever it lies. -/
structure RsAt (w : World) (a : Option Addr) (cap : Nat) (l : List Rl) : Prop where
  le : l.length ≤ cap
  cap : cap ≤ maxLen
  ok : ∀ m ∈ l, m.ok
  cells : ∀ j m, l[j]? = some m → ∃ b off, a = some ⟨b, off, none⟩ ∧ w.cell? ⟨b, off + j * 4, none⟩ = some (.int .u64 m.ht) ∧ w.cell? ⟨b, off + j * 4 + 1, none⟩ = some (.int .u64 m.ad) ∧ w.cell? ⟨b, off + j * 4 + 2, none⟩ = some (.int .u64 m.born) ∧ w.cell? ⟨b, off + j * 4 + 3, none⟩ = some (.int .u64 m.amt)
def Rs (w : World) (v : Value) (l : List Rl) : Prop := ∃ a cap, v = .slice a l.length cap ∧ RsAt w a cap l
theorem RsAt.turn_no {w w' : World} {a : Option Addr} {cap : Nat} {l : List Rl} (h : RsAt w a cap l) (t : Turn no w w') : RsAt w' a cap l :=
  ⟨h.le, h.cap, h.ok, fun j m hj => by
    obtain ⟨b, off, e, c0, c1, c2, c3⟩ := h.cells j m hj
    exact ⟨b, off, e, t.keep c0 (fun q => q), t.keep c1 (fun q => q), t.keep c2 (fun q => q), t.keep c3 (fun q => q)⟩⟩
theorem Rs.turn_no {w w' : World} {v : Value} {l : List Rl} (h : Rs w v l) (t : Turn no w w') : Rs w' v l := by
  obtain ⟨a, cap, e, h⟩ := h
  exact ⟨a, cap, e, h.turn_no t⟩
/-- What whole reckons, wraps and all. -/
def stepA (S : Nat) (m : Ac) : Nat := min (((S + m.bal) % 18446744073709551616 + m.bond) % 18446744073709551616) 1152921504606846976
def stepR (S : Nat) (m : Rl) : Nat := min ((S + m.amt) % 18446744073709551616) 1152921504606846976
def wholeN (b : Nat) (l : List Ac) (r : List Rl) : Nat := r.foldl stepR (l.foldl stepA (min b 1152921504606846976))
theorem shut' {p : Prop} (h : p) : Hid p := h
theorem wrap_add (x y : Nat) : IntKind.u64.wrap ((x : Int) + (y : Int)) = (((x + y) % 18446744073709551616 : Nat) : Int) := by rw [IntKind.wrap_u64]; omega
theorem foldl_take {α β : Type} (f : β → α → β) (z : β) (l : List α) (k : Nat) (m : α) (h : l[k]? = some m) : (l.take (k + 1)).foldl f z = f ((l.take k).foldl f z) m := by
  rw [List.take_add_one, h, Option.toList_some, List.foldl_append]
  rfl
set_option maxRecDepth 100000 in
set_option maxHeartbeats 4000000 in
theorem whole21 (w : World) (va vr : Value) (l : List Ac) (r : List Rl) (ha : As w va l) (hr : Rs w vr r) (b s : Nat) : Calls Try.prog 21 #[.agg #[va, vr, .int .u64 b, .int .u64 s]] w fun e w' => e = .returned (.int .u64 (wholeN b l r)) ∧ Turn no w w' := by
  obtain ⟨a, cap, rfl, h⟩ := ha
  obtain ⟨a2, cap2, rfl, h2⟩ := hr
  have hle : l.length ≤ 9223372036854775807 := by have := h.le; have := h.cap; simp only [maxLen] at this; omega
  have hle2 : r.length ≤ 9223372036854775807 := by have := h2.le; have := h2.cap; simp only [maxLen] at this; omega
  obtain ⟨w1, hw1⟩ : ∃ w1, w1 = w.alloc (.cells #[.slice a l.length cap, .slice a2 r.length cap2, .int .u64 b, .int .u64 s] 29) := ⟨_, rfl⟩
  have t1 : Turn no w w1 := by rw [hw1]; exact (Turn.refl no w).alloc _
  have R1 : w1.heap[w.heap.size]? = some (.cells #[.slice a l.length cap, .slice a2 r.length cap2, .int .u64 b, .int .u64 s] 29 (0, 0)) := by rw [hw1]; exact heap_alloc_new w _
  have d0 : w1.cell? ⟨w.heap.size, 0, none⟩ = some (.slice a l.length cap) := cell_of_row _ _ 0 _ 29 (0, 0) R1
  have d1 : w1.cell? ⟨w.heap.size, 1, none⟩ = some (.slice a2 r.length cap2) := cell_of_row _ _ 1 _ 29 (0, 0) R1
  have d2 : w1.cell? ⟨w.heap.size, 2, none⟩ = some (.int .u64 b) := cell_of_row _ _ 2 _ 29 (0, 0) R1
  have hcells := (h.turn_no t1).cells
  have hcells2 := (h2.turn_no t1).cells
  obtain ⟨n, hn⟩ : ∃ n, Hid (l.length = n) := ⟨_, rfl⟩
  obtain ⟨n2, hn2⟩ : ∃ n, Hid (r.length = n) := ⟨_, rfl⟩
  have hn' : l.length = n := hn.out
  have hn2' : r.length = n2 := hn2.out
  rw [hn'] at hle d0 hw1
  rw [hn2'] at hle2 d1 hw1
  rw [hn', hn2']
  clear hn' hn2' h h2 R1
  go_enter Try.func21, Try.ntmps21
  go_upto_region 1 with fail
  try rw [← hw1]
  go_cut [3] from 8 to 10 (fun x wx => x = .int .u64 (min b 1152921504606846976 : Nat) ∧ wx = w1)
  case first =>
    by_cases hb : b ≤ 1152921504606846976
    · have hb' : (b : Int) ≤ 1152921504606846976 := by omega
      have e : min b 1152921504606846976 = b := by omega
      go_wp2_with fail
      go_meet
      case rel => exact ⟨by rw [e], hw1.symm⟩
    · have hb' : ¬ (b : Int) ≤ 1152921504606846976 := by omega
      have e : min b 1152921504606846976 = 1152921504606846976 := by omega
      go_wp2_with fail
      go_meet
      case rel => exact ⟨by rw [e]; rfl, hw1.symm⟩
  case rest =>
    obtain ⟨rfl, rfl⟩ := hcut
    clear hw1
    go_wp2_with fail
    go_loopw [3, 14] (fun x c wr => ∃ k : Nat, k ≤ n ∧ c = .int .i64 k ∧ x = .int .u64 ((l.take k).foldl stepA (min b 1152921504606846976) : Nat) ∧ Turn no wc wr) (fun _ c _ => n - (intOf c).toNat)
    case atStart => exact ⟨0, by omega, rfl, rfl, Turn.refl _ _⟩
    case round =>
      obtain ⟨k, hk, rfl, rfl, T⟩ := hrel
      have hf := fun m hm => foldl_take stepA (min b 1152921504606846976) l k m hm
      by_cases hlt : k < n
      · obtain ⟨m, hm⟩ : ∃ m, l[k]? = some m := ⟨l[k]'(by rw [hn.out]; exact hlt), List.getElem?_eq_getElem _⟩
        obtain ⟨bb, off, rfl, c0, c1, c2, c3, c4⟩ := hcells k m hm
        have c0 := T.keep c0 (fun q => q)
        have c1 := T.keep c1 (fun q => q)
        have c2 := T.keep c2 (fun q => q)
        have c3 := T.keep c3 (fun q => q)
        have c4 := T.keep c4 (fun q => q)
        have hlt' : (k : Int) < (n : Int) := by omega
        have hk1 : Hid (k + 1 ≤ n) := hlt
        have hst := hf m hm
        generalize (l.take k).foldl stepA (min b 1152921504606846976) = S at *
        have e1 := wrap_add S m.bal
        have e2 := wrap_add ((S + m.bal) % 18446744073709551616) m.bond
        unfold stepA at hst
        generalize (S + m.bal) % 18446744073709551616 = V1 at *
        generalize (V1 + m.bond) % 18446744073709551616 = V2 at *
        have HST : Hid ((l.take (k + 1)).foldl stepA (min b 1152921504606846976) = min V2 1152921504606846976) := hst
        clear hst hf hcells hm
        by_cases hv : V2 ≤ 1152921504606846976
        · have hv' : (V2 : Int) ≤ 1152921504606846976 := by omega
          have e3 : min V2 1152921504606846976 = V2 := by omega
          go_wp2_with fail
          go_roundw
          case rel => exact ⟨k + 1, hk1.out, by go_num, by rw [HST.out, e3], T.alloc _⟩
          case measure => have := hk1.out; simp [intOf]; omega
        · have hv' : ¬ (V2 : Int) ≤ 1152921504606846976 := by omega
          have e3 : min V2 1152921504606846976 = 1152921504606846976 := by omega
          go_wp2_with fail
          go_roundw
          case rel => exact ⟨k + 1, hk1.out, by go_num, by rw [HST.out, e3, if_pos (by omega)]; rfl, T.alloc _⟩
          case measure => have := hk1.out; simp [intOf]; omega
      · have hlt' : ¬ (k : Int) < (n : Int) := by omega
        have hfull : l.take k = l := List.take_of_length_le (by have := hn.out; omega)
        rw [hfull]
        have dd := T.keep d1 (fun q => q)
        clear hcells hf hfull
        generalize hS0 : l.foldl stepA (min b 1152921504606846976) = S0 at *
        have HS0 := shut' hS0
        clear hS0
        go_wp2_with fail
        go_loopw [3, 30] (fun x c wr => ∃ k : Nat, k ≤ n2 ∧ c = .int .i64 k ∧ x = .int .u64 ((r.take k).foldl stepR S0 : Nat) ∧ Turn no wc wr) (fun _ c _ => n2 - (intOf c).toNat)
        case atStart => exact ⟨0, by omega, rfl, rfl, T⟩
        case round =>
          clear T
          obtain ⟨j, hj, rfl, rfl, T⟩ := hrel
          have hf := fun m hm => foldl_take stepR S0 r j m hm
          by_cases hlt : j < n2
          · obtain ⟨m, hm⟩ : ∃ m, r[j]? = some m := ⟨r[j]'(by rw [hn2.out]; exact hlt), List.getElem?_eq_getElem _⟩
            obtain ⟨bb, off, rfl, c0, c1, c2, c3⟩ := hcells2 j m hm
            have c0 := T.keep c0 (fun q => q)
            have c1 := T.keep c1 (fun q => q)
            have c2 := T.keep c2 (fun q => q)
            have c3 := T.keep c3 (fun q => q)
            have hlt' : (j : Int) < (n2 : Int) := by omega
            have hk1 : Hid (j + 1 ≤ n2) := hlt
            have hst := hf m hm
            generalize (r.take j).foldl stepR S0 = S at *
            have e1 := wrap_add S m.amt
            unfold stepR at hst
            generalize (S + m.amt) % 18446744073709551616 = V1 at *
            have HST : Hid ((r.take (j + 1)).foldl stepR S0 = min V1 1152921504606846976) := hst
            clear hst hf hcells2 hm
            by_cases hv : V1 ≤ 1152921504606846976
            · have hv' : (V1 : Int) ≤ 1152921504606846976 := by omega
              have e3 : min V1 1152921504606846976 = V1 := by omega
              go_wp2_with fail
              go_roundw
              case rel => exact ⟨j + 1, hk1.out, by go_num, by rw [HST.out, e3], T.alloc _⟩
              case measure => have := hk1.out; simp [intOf]; omega
            · have hv' : ¬ (V1 : Int) ≤ 1152921504606846976 := by omega
              have e3 : min V1 1152921504606846976 = 1152921504606846976 := by omega
              go_wp2_with fail
              go_roundw
              case rel => exact ⟨j + 1, hk1.out, by go_num, by rw [HST.out, e3, if_pos (by omega)]; rfl, T.alloc _⟩
              case measure => have := hk1.out; simp [intOf]; omega
          · have hlt' : ¬ (j : Int) < (n2 : Int) := by omega
            have hfull : r.take j = r := List.take_of_length_le (by have := hn2.out; omega)
            rw [hfull]
            have HE : Hid (r.foldl stepR S0 = wholeN b l r) := by show _ = _; rw [wholeN, HS0.out]
            clear hcells2 hf hfull
            go_wp2_with fail
            go_ret
            exact ⟨by rw [← HE.out]; rfl, t1.then_no T⟩
end Go.Proofs.Ytdbfbdhnjbmmjaa
