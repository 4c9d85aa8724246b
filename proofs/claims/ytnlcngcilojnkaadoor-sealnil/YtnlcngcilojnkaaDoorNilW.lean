/- The walk of SealNil. -/
import Derived.Test.YtnlcngcilojnkaaDoorN1
namespace Go.Proofs.YtnlcngcilojnkaaDoor
open Go.RowKit Go.Maps Go.MuLone
set_option linter.unusedVariables false

set_option maxRecDepth 100000 in
set_option maxHeartbeats 4000000 in
theorem nil_any (w : World) (a : UInt64) (va : Value) (bs : List UInt8) (hb : Bs w va bs) (X : List UInt8) (hx : X.length = 16) (hl : Laid1 w) (h2 : 2 ≤ w.heap.size) :
    Calls Tryd.prog 6 #[.int .u64 a.toNat, va, .agg (X.map bv).toArray] w fun e w' => e = .returned (.bool true) ∧ Turn no w w' := by
  have hst := fun W (t : Turn no w W) => strange_any W a (a + 1) va bs (hb.turn_no t) X hx (hl.turn t (fun q => q)) (by have := t.size; omega)
  have hadd : ((a + 1).toNat : Int) = ((a.toNat : Int) + 1) % 18446744073709551616 := by
    rw [UInt64.toNat_add]
    simp
  obtain _ | ⟨x0, X⟩ := X
  · simp at hx
  obtain _ | ⟨x1, X⟩ := X
  · simp at hx
  obtain _ | ⟨x2, X⟩ := X
  · simp at hx
  obtain _ | ⟨x3, X⟩ := X
  · simp at hx
  obtain _ | ⟨x4, X⟩ := X
  · simp at hx
  obtain _ | ⟨x5, X⟩ := X
  · simp at hx
  obtain _ | ⟨x6, X⟩ := X
  · simp at hx
  obtain _ | ⟨x7, X⟩ := X
  · simp at hx
  obtain _ | ⟨x8, X⟩ := X
  · simp at hx
  obtain _ | ⟨x9, X⟩ := X
  · simp at hx
  obtain _ | ⟨x10, X⟩ := X
  · simp at hx
  obtain _ | ⟨x11, X⟩ := X
  · simp at hx
  obtain _ | ⟨x12, X⟩ := X
  · simp at hx
  obtain _ | ⟨x13, X⟩ := X
  · simp at hx
  obtain _ | ⟨x14, X⟩ := X
  · simp at hx
  obtain _ | ⟨x15, X⟩ := X
  · simp at hx
  obtain _ | ⟨x16, X⟩ := X
  rotate_left
  · simp at hx
  simp only [inC, hadd, List.map_cons, List.map_nil] at hst ⊢
  generalize bv x0 = y0 at *
  generalize bv x1 = y1 at *
  generalize bv x2 = y2 at *
  generalize bv x3 = y3 at *
  generalize bv x4 = y4 at *
  generalize bv x5 = y5 at *
  generalize bv x6 = y6 at *
  generalize bv x7 = y7 at *
  generalize bv x8 = y8 at *
  generalize bv x9 = y9 at *
  generalize bv x10 = y10 at *
  generalize bv x11 = y11 at *
  generalize bv x12 = y12 at *
  generalize bv x13 = y13 at *
  generalize bv x14 = y14 at *
  generalize bv x15 = y15 at *
  obtain ⟨va', vc, hva⟩ := hb.slice
  subst hva
  obtain ⟨XV, hXV⟩ : ∃ XV : Array Value, XV = #[y0, y1, y2, y3, y4, y5, y6, y7, y8, y9, y10, y11, y12, y13, y14, y15] := ⟨_, rfl⟩
  have hxs : XV.size = 16 := by rw [hXV]; rfl
  have T0 : Turn no w (w.alloc (.cells XV 33)) := (Turn.refl no w).alloc _
  have RX := Row.new w XV 33
  have hi : (Tryd.prog.info? 33).map (·.size) = some XV.size := by rw [hxs]; exact size33
  have hu := Tryd.underlying33
  have hn1 := fun W => nobody18 W (.pointer none) (Or.inl rfl) a va' bs.length vc XV hxs
  have hn2 := fun W cs (t : cs[0]? = some (.pointer none)) => nobody18 (W.alloc (.cells cs 57)) (.pointer (some ⟨W.heap.size, 0, none⟩)) (Or.inr ⟨_, rfl, (Row.new W cs 57).cell 0 _ t⟩) a va' bs.length vc XV hxs
  have hXV' : Value.agg #[y0, y1, y2, y3, y4, y5, y6, y7, y8, y9, y10, y11, y12, y13, y14, y15] = .agg XV := by rw [hXV]
  rw [hXV']
  have hSh : Shut (XV = #[y0, y1, y2, y3, y4, y5, y6, y7, y8, y9, y10, y11, y12, y13, y14, y15]) := hXV
  clear hXV hXV'
  have hst' : Shut (∀ W, Turn no w W → Calls Tryd.prog 4 #[.agg #[.int .u64 a.toNat, .int .u64 (((a.toNat : Int) + 1) % 18446744073709551616), .slice va' bs.length vc, y0, y1, y2, y3, y4, y5, y6, y7, y8, y9, y10, y11, y12, y13, y14, y15]] W fun e w' => e = .returned (.bool true) ∧ Turn no W w') := hst
  clear hst
  go_enter Tryd.func6, Tryd.ntmps6
  go_wp2_with (refine wpList_load_row_w (by rfl) 33 (.tmp 5) rfl w.heap.size rfl 33 XV (0, 0) _ RX hu rfl hi ?_)
  generalize w.alloc (.cells XV 33) = w1 at *
  refine (hn1 w1).mono ?_
  rintro e w2 ⟨rfl, t2⟩
  have R2 := RX.turn t2 (fun q => q)
  have R2' := fun o => R2.alloc o
  go_wp2_with (refine wpList_load_row_w (by rfl) 33 (.tmp 5) rfl w.heap.size rfl 33 XV (0, 0) _ (R2' _) hu rfl hi ?_)
  refine (hn2 w2 _ rfl).mono ?_
  rintro e w3 ⟨rfl, t3⟩
  have T3 : Turn no w w3 := ((T0.then_no t2).alloc _).then_no t3
  have R3 := (R2' _).turn t3 (fun q => q)
  clear t3 R2' R2 t2 hn1 hn2
  go_wp2_with fail
  refine (mute19 w3 (.pointer none) (Or.inl rfl) va' bs.length vc).mono ?_
  rintro e w4 ⟨rfl, t4⟩
  have R4' := fun o => (R3.turn t4 (fun q => q)).alloc o
  have T4 := T3.then_no t4
  clear t4 R3
  go_wp2_with fail
  refine (mute19 (w4.alloc (.cells #[.pointer none, .pointer none, .int .u64 0] 60)) (.pointer (some ⟨w4.heap.size, 0, none⟩)) (Or.inr ⟨_, rfl, (Row.new w4 #[.pointer none, .pointer none, .int .u64 0] 60).cell 0 _ rfl⟩) va' bs.length vc).mono ?_
  rintro e w5 ⟨rfl, t5⟩
  have R5 := (R4' _).turn t5 (fun q => q)
  have T5 : Turn no w w5 := (T4.alloc _).then_no t5
  have hs5 := hst'.out w5 T5
  clear t5 R4' hst'
  have hXV := hSh.out
  subst hXV
  clear hSh
  go_wp2_with (refine wpList_load_row_w (by rfl) 33 (.tmp 5) rfl w.heap.size rfl 33 #[y0, y1, y2, y3, y4, y5, y6, y7, y8, y9, y10, y11, y12, y13, y14, y15] (0, 0) _ R5 hu rfl hi ?_)
  refine hs5.mono ?_
  rintro e w6 ⟨rfl, t6⟩
  go_wp2_with fail
  go_ret
  exact ⟨rfl, T5.then_no t6⟩
end Go.Proofs.YtnlcngcilojnkaaDoor
