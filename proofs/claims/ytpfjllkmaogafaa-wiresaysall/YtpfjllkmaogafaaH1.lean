/- A proposal as plain data and as cells; PlainProposal of both sides. -/
import Derived.Test.YtpfjllkmaogafaaK2
import Derived.Test.YtpfjllkmaogafaaU2
namespace Go.Proofs.Ytpfjllkmaogafaa
open Go.RowKit
set_option linter.unusedVariables false

structure Po where
  h : Nat
  r : Int
  vr : Int
  id : List UInt8
  f : Nat
  se : List UInt8
def Po.ok (x : Po) : Prop := x.id.length = 32 ∧ x.se.length = 16 ∧ x.h < 18446744073709551616 ∧ x.f < 18446744073709551616
def Po.cs (x : Po) : List Value := .int .u64 x.h :: .int .i64 x.r :: .int .i64 x.vr :: (x.id.map bv ++ .int .u64 x.f :: x.se.map bv)
theorem Po.len {x : Po} (h : x.ok) : x.cs.length = 52 := by simp [Po.cs, h.1, h.2.1]
structure PoAt (w : World) (g : Nat) (x : Po) : Prop where
  c0 : w.cell? ⟨g, 0, none⟩ = some (.int .u64 x.h)
  c1 : w.cell? ⟨g, 1, none⟩ = some (.int .i64 x.r)
  c2 : w.cell? ⟨g, 2, none⟩ = some (.int .i64 x.vr)
  c35 : w.cell? ⟨g, 35, none⟩ = some (.int .u64 x.f)
  cid : w.rangeAt g 3 (x.id.map bv)
  cse : w.rangeAt g 36 (x.se.map bv)
theorem Row.po {w : World} {g : Nat} {x : Po} (r : Row w g x.cs.toArray 33) (h : x.ok) : PoAt w g x := by
  have R := Row.range r
  have hl := h.1
  have e : ∀ j u, x.cs[j]? = some u → w.cell? ⟨g, j, none⟩ = some u := fun j u hu => by have := R j u hu; rwa [Nat.zero_add] at this
  refine ⟨e 0 _ rfl, e 1 _ rfl, e 2 _ rfl, e 35 _ (by simp [Po.cs, hl]), fun j u hu => e (3 + j) u ?_, fun j u hu => e (36 + j) u ?_⟩
  · have hj : j < x.id.length := by have := (List.getElem?_eq_some_iff.1 hu).1; simpa using this
    rw [show 3 + j = j + 1 + 1 + 1 by omega]
    simp only [Po.cs, List.getElem?_cons_succ]
    rw [List.getElem?_append_left (by simpa using hj)]
    exact hu
  · rw [show 36 + j = (33 + j) + 1 + 1 + 1 by omega]
    simp only [Po.cs, List.getElem?_cons_succ]
    rw [List.getElem?_append_right (by simp; omega)]
    rw [show 33 + j - (x.id.map bv).length = j + 1 by simp; omega]
    simp only [List.getElem?_cons_succ]
    exact hu
theorem size33 : (Try.prog.info? 33).map (·.size) = some 52 := by kernel_rfl
def plainP (x : Po) : Int := fieldE (hB x.h && rB x.r && (decide (-1 ≤ x.vr) && decide (x.vr < x.r)) && !(x.id == zid) && ((x.f : Int) != 0))
set_option maxRecDepth 100000 in
set_option maxHeartbeats 4000000 in
theorem plain33 (w : World) (x : Po) (ho : x.ok) : Calls Try.prog 33 #[.agg x.cs.toArray] w fun e w' => e = .returned (.int .i64 (plainP x)) ∧ Turn no w w' := by
  obtain ⟨c0, c1, c2, c35, cid, _⟩ := (Row.new w x.cs.toArray 33).po ho
  have hi : (Try.prog.info? 29).map (·.size) = some (x.id.map bv).length := by rw [List.length_map, ho.1]; exact size24
  have hn := none15 (w.alloc (.cells x.cs.toArray 33)) x.id ho.1
  have t0 : Turn no w (w.alloc (.cells x.cs.toArray 33)) := (Turn.refl no w).alloc _
  have K : ∀ w', Turn no (w.alloc (.cells x.cs.toArray 33)) w' → w'.cell? ⟨w.heap.size, 35, none⟩ = some (.int .u64 x.f) ∧ Turn no w w' := fun w' t => ⟨t.keep c35 (fun q => q), t0.then_no t⟩
  have HK := shutX K
  unfold plainP
  generalize x.cs.toArray = C at *
  generalize x.id.map bv = D at *
  generalize (x.id == zid) = B at *
  generalize x.h = vh at *
  generalize x.r = vr at *
  generalize x.vr = vv at *
  generalize x.f = vf at *
  clear ho K c35
  have HT := shutX t0
  clear t0
  have A := fun w n => height18 w n
  have R := fun w n => round19 w n
  have F := fun w b => unless17 w b
  obtain ⟨bh, hbh⟩ : ∃ b, hB (vh : Int) = b := ⟨_, rfl⟩
  obtain ⟨br, hbr⟩ : ∃ b, rB vr = b := ⟨_, rfl⟩
  by_cases h1 : (-1 : Int) ≤ vv <;> by_cases h2 : vv < vr <;> cases bh <;> cases br
  all_goals (
    simp only [h1, h2, decide_true, decide_false]
    go_enter Try.func33, Try.ntmps33
    go_wp2_with (first | (guard_target =~ wpList _ _ _ ({ dst := _, op := Op.load 29 _, .. } :: _) _ _; refine wpList_load_midG (by rfl) 29 _ rfl w.heap.size 3 rfl D _ cid Try.underlying29 rfl hi ?_) | (go_at_call 69; refine (A _ _).mono ?_; rintro e w' ⟨rfl, rfl⟩; rw [hbh]) | (go_at_call 70; refine (R _ _).mono ?_; rintro e w' ⟨rfl, rfl⟩; rw [hbr]) | (go_at_call 61; refine (F _ _).mono ?_; rintro e w' ⟨rfl, rfl⟩))
    first
      | (go_ret; exact ⟨by simp [*], HT.out⟩)
      | (refine hn.mono ?_
         rintro e w1 ⟨rfl, t1⟩
         obtain ⟨c35, t2⟩ := HK.out w1 t1
         have HT2 := shutX t2
         clear hn HK t1 t2 cid
         cases B
         all_goals (
           go_wp2_with (go_at_call 61; refine (F _ _).mono ?_; rintro e w' ⟨rfl, rfl⟩)
           go_ret
           exact ⟨by simp [*], HT2.out⟩)))
set_option maxRecDepth 100000 in
set_option maxHeartbeats 4000000 in
theorem plain41 (w : World) (x : Po) (ho : x.ok) : Calls Try.prog 41 #[.agg x.cs.toArray] w fun e w' => e = .returned (.int .i64 (plainP x)) ∧ Turn no w w' := by
  obtain ⟨c0, c1, c2, c35, cid, _⟩ := (Row.new w x.cs.toArray 33).po ho
  have hi : (Try.prog.info? 29).map (·.size) = some (x.id.map bv).length := by rw [List.length_map, ho.1]; exact size24
  have he := fun W => eqz W x.id ho.1
  have t0 : Turn no w (w.alloc (.cells x.cs.toArray 33)) := (Turn.refl no w).alloc _
  unfold plainP
  generalize x.cs.toArray = C at *
  generalize x.id.map bv = D at *
  generalize (x.id == zid) = B at *
  generalize x.h = vh at *
  generalize x.r = vr at *
  generalize x.vr = vv at *
  generalize x.f = vf at *
  clear ho
  have HT := shutX t0
  clear t0
  have A := fun w n => height21 w n
  have R := fun w n => round22 w n
  obtain ⟨bh, hbh⟩ : ∃ b, hB (vh : Int) = b := ⟨_, rfl⟩
  obtain ⟨br, hbr⟩ : ∃ b, rB vr = b := ⟨_, rfl⟩
  have hf : ((vf : Int) == 0) = true ∨ ((vf : Int) == 0) = false := by cases ((vf : Int) == 0) <;> simp
  have nf : ((vf : Int) != 0) = !((vf : Int) == 0) := rfl
  rw [nf]
  by_cases h1 : (-1 : Int) ≤ vv <;> by_cases h2 : vv < vr <;> cases bh <;> cases br <;> cases B <;> rcases hf with hf | hf
  all_goals (
    go_enter Try.func41, Try.ntmps41
    go_wp2_with (first | (guard_target =~ wpList _ _ _ ({ dst := _, op := Op.load 29 _, .. } :: _) _ _; refine wpList_load_midG (by rfl) 29 _ rfl w.heap.size 3 rfl D _ cid Try.underlying29 rfl hi ?_) | (go_at_call 81; refine (A _ _).mono ?_; rintro e w' ⟨rfl, rfl⟩; rw [hbh]) | (go_at_call 82; refine (R _ _).mono ?_; rintro e w' ⟨rfl, rfl⟩; rw [hbr]))
    go_ret
    exact ⟨by simp [fieldE, *], HT.out⟩)
end Go.Proofs.Ytpfjllkmaogafaa
