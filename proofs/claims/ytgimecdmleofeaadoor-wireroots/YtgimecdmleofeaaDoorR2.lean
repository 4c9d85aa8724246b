/- A header as plain data and as cells; PlainHeader of both. -/
import Derived.Test.YtgimecdmleofeaaDoorTk
import Derived.Test.YtgimecdmleofeaaDoorU1
import Derived.Test.YtgimecdmleofeaaDoorJz
namespace Go.Proofs.YtgimecdmleofeaaDoor
open Go.RowKit
set_option linter.unusedVariables false

structure Hd where
  ch : ByteArray
  h : Nat
  t : Nat
  a0 : List UInt8
  a1 : List UInt8
  a2 : List UInt8
  a3 : List UInt8
  a4 : List UInt8
  a5 : List UInt8
  a6 : List UInt8
  pr : Nat
def Hd.ok (x : Hd) : Prop := x.h < 18446744073709551616 ∧ x.t < 18446744073709551616 ∧ x.pr < 18446744073709551616 ∧ 0 ≤ x.ch.size ∧ x.a0.length = 32 ∧ x.a1.length = 32 ∧ x.a2.length = 32 ∧ x.a3.length = 32 ∧ x.a4.length = 32 ∧ x.a5.length = 32 ∧ x.a6.length = 32
/-- Its seven ids, one behind the other. -/
def Hd.ids (x : Hd) : List UInt8 := x.a0 ++ (x.a1 ++ (x.a2 ++ (x.a3 ++ (x.a4 ++ (x.a5 ++ (x.a6))))))
def Hd.cs (x : Hd) : List Value := .string x.ch :: .int .u64 x.h :: .int .u64 x.t :: (x.a0.map bv ++ (x.a1.map bv ++ (x.a2.map bv ++ (x.a3.map bv ++ (x.a4.map bv ++ (x.a5.map bv ++ (x.a6.map bv ++ [.int .u64 x.pr])))))))
theorem Hd.len {x : Hd} (h : x.ok) : x.cs.length = 228 := by
  obtain ⟨_, _, _, _, h0, h1, h2, h3, h4, h5, h6⟩ := h
  simp [Hd.cs, h0, h1, h2, h3, h4, h5, h6]
theorem size31 : (Tryd.prog.info? 31).map (·.size) = some 228 := by kernel_rfl
theorem Hd.info {x : Hd} (h : x.ok) : (Tryd.prog.info? 31).map (·.size) = some x.cs.length := by rw [x.len h]; exact size31
theorem range_app {w : World} {g o : Nat} {A B : List Value} (h : w.rangeAt g o (A ++ B)) : w.rangeAt g o A ∧ w.rangeAt g (o + A.length) B :=
  ⟨fun j v hv => h j v (by rw [List.getElem?_append_left (List.getElem?_eq_some_iff.1 hv).1]; exact hv),
   fun j v hv => by
     have := h (A.length + j) v (by rw [List.getElem?_append_right (by omega), show A.length + j - A.length = j by omega]; exact hv)
     rwa [show o + A.length + j = o + (A.length + j) by omega]⟩
/-- What a block with a header in it shows. -/
structure HdAt (w : World) (g : Nat) (x : Hd) : Prop where
  c0 : w.cell? ⟨g, 0, none⟩ = some (.string x.ch)
  c1 : w.cell? ⟨g, 1, none⟩ = some (.int .u64 x.h)
  c2 : w.cell? ⟨g, 2, none⟩ = some (.int .u64 x.t)
  r0 : w.rangeAt g 3 (x.a0.map bv)
  r1 : w.rangeAt g 35 (x.a1.map bv)
  r2 : w.rangeAt g 67 (x.a2.map bv)
  r3 : w.rangeAt g 99 (x.a3.map bv)
  r4 : w.rangeAt g 131 (x.a4.map bv)
  r5 : w.rangeAt g 163 (x.a5.map bv)
  r6 : w.rangeAt g 195 (x.a6.map bv)
  c227 : w.cell? ⟨g, 227, none⟩ = some (.int .u64 x.pr)
theorem hdAt {w : World} {g : Nat} {x : Hd} (ho : x.ok) (h : w.rangeAt g 0 x.cs) : HdAt w g x := by
  obtain ⟨_, _, _, _, h0, h1, h2, h3, h4, h5, h6⟩ := ho
  have c0 := h 0 _ (show x.cs[0]? = some (.string x.ch) from rfl)
  have c1 := h 1 _ (show x.cs[1]? = some (.int .u64 x.h) from rfl)
  have c2 := h 2 _ (show x.cs[2]? = some (.int .u64 x.t) from rfl)
  have r : w.rangeAt g 3 (x.a0.map bv ++ (x.a1.map bv ++ (x.a2.map bv ++ (x.a3.map bv ++ (x.a4.map bv ++ (x.a5.map bv ++ (x.a6.map bv ++ [.int .u64 x.pr]))))))) := fun j v hv => by
    have := h (3 + j) v (by unfold Hd.cs; rw [show 3 + j = j + 1 + 1 + 1 by omega]; simpa using hv)
    simpa using this
  obtain ⟨r0, r⟩ := range_app r
  rw [List.length_map, h0] at r
  obtain ⟨r1, r⟩ := range_app r
  rw [List.length_map, h1] at r
  obtain ⟨r2, r⟩ := range_app r
  rw [List.length_map, h2] at r
  obtain ⟨r3, r⟩ := range_app r
  rw [List.length_map, h3] at r
  obtain ⟨r4, r⟩ := range_app r
  rw [List.length_map, h4] at r
  obtain ⟨r5, r⟩ := range_app r
  rw [List.length_map, h5] at r
  obtain ⟨r6, r⟩ := range_app r
  rw [List.length_map, h6] at r
  have c227 := r 0 _ rfl
  exact ⟨by simpa using c0, by simpa using c1, by simpa using c2, r0, r1, r2, r3, r4, r5, r6, by simpa using c227⟩
theorem Row.hd {w : World} {g : Nat} {x : Hd} (ho : x.ok) (r : Row w g x.cs.toArray 31) : HdAt w g x := hdAt ho (Row.rangeZ r)
theorem HdAt.turn {S : Nat → Prop} {w w' : World} {g : Nat} {x : Hd} (h : HdAt w g x) (t : Turn S w w') (hn : ¬ S g) : HdAt w' g x :=
  ⟨t.keep h.c0 hn, t.keep h.c1 hn, t.keep h.c2 hn, fun j u hu => t.keep (h.r0 j u hu) hn, fun j u hu => t.keep (h.r1 j u hu) hn, fun j u hu => t.keep (h.r2 j u hu) hn, fun j u hu => t.keep (h.r3 j u hu) hn, fun j u hu => t.keep (h.r4 j u hu) hn, fun j u hu => t.keep (h.r5 j u hu) hn, fun j u hu => t.keep (h.r6 j u hu) hn, t.keep h.c227 hn⟩
/-- What PlainHeader answers. -/
def plainH (x : Hd) : Int := fieldE (cB x.ch && hB x.h && tB x.t && ((x.pr : Int) != 0))
set_option maxRecDepth 100000 in
set_option maxHeartbeats 4000000 in
theorem plain23 (w : World) (x : Hd) (ho : x.ok) : Calls Tryd.prog 23 #[.agg x.cs.toArray] w fun e w' => e = .returned (.int .i64 (plainH x)) ∧ Turn no w w' := by
  obtain ⟨c0, c1, c2, _, _, _, _, _, _, _, c3⟩ := Row.hd ho (Row.new w x.cs.toArray 31)
  have t0 : Turn no w (w.alloc (.cells x.cs.toArray 31)) := (Turn.refl no w).alloc _
  unfold plainH
  generalize x.cs.toArray = C at *
  generalize x.ch = ch at *
  generalize x.h = h at *
  generalize x.t = t at *
  generalize x.pr = pr at *
  have A1 := fun w => chain109 w ch
  have A2 := fun w => height18 w h
  have A3 := fun w => time16 w t
  have A4 := fun w b => unless17 w b
  have HF := shutX t0
  generalize cB ch = b1 at *
  generalize hB h = b2 at *
  generalize tB t = b3 at *
  clear t0 ho
  cases b1 <;> cases b2 <;> cases b3
  all_goals (
    go_enter Tryd.func23, Tryd.ntmps23
    go_wp2_with (first | (go_at_call 59; refine (A1 _).mono ?_; rintro e w' ⟨rfl, rfl⟩) | (go_at_call 60; refine (A2 _).mono ?_; rintro e w' ⟨rfl, rfl⟩) | (go_at_call 61; refine (A3 _).mono ?_; rintro e w' ⟨rfl, rfl⟩) | (go_at_call 54; refine (A4 _ _).mono ?_; rintro e w' ⟨rfl, rfl⟩))
    go_ret
    exact ⟨rfl, HF.out⟩)
set_option maxRecDepth 100000 in
set_option maxHeartbeats 4000000 in
theorem rplain33 (w : World) (x : Hd) (ho : x.ok) : Calls Tryd.prog 33 #[.agg x.cs.toArray] w fun e w' => e = .returned (.int .i64 (plainH x)) ∧ Turn no w w' := by
  obtain ⟨c0, c1, c2, _, _, _, _, _, _, _, c3⟩ := Row.hd ho (Row.new w x.cs.toArray 31)
  have t0 : Turn no w (w.alloc (.cells x.cs.toArray 31)) := (Turn.refl no w).alloc _
  unfold plainH
  have hch : cB x.ch = true ↔ ¬ ((x.ch.size : Int) < 1) ∧ ¬ ((16 : Int) < (x.ch.size : Int)) := by
    unfold cB; simp
  generalize x.cs.toArray = C at *
  have hsz := ho.2.2.2.1
  generalize x.ch = ch at *
  generalize x.h = h at *
  generalize x.t = t at *
  generalize x.pr = pr at *
  have A2 := fun w => height21 w h
  have A3 := fun w => time23 w t
  have HF := shutX t0
  have HCH := shutX hch
  generalize cB ch = b1 at *
  generalize hB h = b2 at *
  generalize tB t = b3 at *
  clear t0 ho hch
  by_cases q1 : (ch.size : Int) < 1
  · have e : b1 = false := by cases b1 with
      | false => rfl
      | true => exact absurd q1 (HCH.out.1 rfl).1
    subst e
    clear HCH
    go_enter Tryd.func33, Tryd.ntmps33
    go_wp2_with fail
    go_ret
    exact ⟨rfl, HF.out⟩
  by_cases q2 : (16 : Int) < (ch.size : Int)
  · have e : b1 = false := by cases b1 with
      | false => rfl
      | true => exact absurd q2 (HCH.out.1 rfl).2
    subst e
    clear HCH
    go_enter Tryd.func33, Tryd.ntmps33
    go_wp2_with fail
    go_ret
    exact ⟨rfl, HF.out⟩
  have e : b1 = true := HCH.out.2 ⟨q1, q2⟩
  subst e
  clear HCH
  have hp : ((pr : Int) == 0) = true ∨ ((pr : Int) == 0) = false := by cases ((pr : Int) == 0) <;> simp
  have np : ((pr : Int) != 0) = !((pr : Int) == 0) := rfl
  rw [np]
  clear np
  rcases hp with hp | hp <;> cases b2 <;> cases b3
  all_goals (
    go_enter Tryd.func33, Tryd.ntmps33
    go_wp2_with (first | (go_at_call 75; refine (A2 _).mono ?_; rintro e w' ⟨rfl, rfl⟩) | (go_at_call 76; refine (A3 _).mono ?_; rintro e w' ⟨rfl, rfl⟩))
    go_ret
    exact ⟨by simp [hp, fieldE], HF.out⟩)
end Go.Proofs.YtgimecdmleofeaaDoor
