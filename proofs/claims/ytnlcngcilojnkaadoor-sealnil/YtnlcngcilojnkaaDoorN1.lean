/- nobody, mute. -/
import Derived.Test.YtnlcngcilojnkaaDoorS9
namespace Go.Proofs.YtnlcngcilojnkaaDoor
open Go.RowKit Go.Maps Go.MuLone
set_option linter.unusedVariables false

set_option maxRecDepth 100000 in
set_option maxHeartbeats 4000000 in
theorem nobody18 (w : World) (v : Value) (h : No w v) (a : UInt64) (va' : Option Addr) (n c : Nat) (XV : Array Value) (hx : XV.size = 16) : Calls Tryd.prog 18 #[v, .int .u64 a.toNat, .slice va' n c, .agg XV] w fun e w' => e = .returned (.bool true) ∧ Turn no w w' := by
  have T0 : Turn no w (w.alloc (.cells XV 33)) := (Turn.refl no w).alloc _
  have h1 := h.turn T0
  have RX := Row.new w XV 33
  have hi : (Tryd.prog.info? 33).map (·.size) = some XV.size := by rw [hx]; exact size33
  have hu := Tryd.underlying33
  have hen := enter_no _ v h1 a
  have hck := check_none _ v h1 a va' n c XV
  have hkn := fun W (t : Turn no (w.alloc (.cells XV 33)) W) => known_no W v (h1.turn t) a
  have hct := fun W (t : Turn no (w.alloc (.cells XV 33)) W) => count_no W v (h1.turn t)
  have hsi := fun W (t : Turn no (w.alloc (.cells XV 33)) W) => signed_no W v (h1.turn t) a
  obtain ⟨pa, rfl⟩ := h.form
  go_enter Tryd.func18, Tryd.ntmps18
  go_wp2_with fail
  generalize w.alloc (.cells XV 33) = w1 at *
  generalize w.heap.size = g at *
  refine hen.mono ?_
  rintro e w2 ⟨rfl, he2⟩
  subst he2
  go_wp2_with fail
  refine (num11 _ _).mono ?_
  rintro e w3 ⟨rfl, he3⟩
  subst he3
  go_wp2_with (refine wpList_load_row_w (by rfl) 33 (.tmp 7) rfl g rfl 33 XV (0, 0) _ RX hu rfl hi ?_)
  refine hck.mono ?_
  rintro e w4 ⟨rfl, t4⟩
  go_wp2_with fail
  refine (hkn w4 t4).mono ?_
  rintro e w5 ⟨rfl, he5⟩
  subst he5
  go_wp2_with fail
  refine (hct _ t4).mono ?_
  rintro e w5 ⟨rfl, he5⟩
  subst he5
  go_wp2_with fail
  refine (hsi _ t4).mono ?_
  rintro e w5 ⟨rfl, he5⟩
  subst he5
  go_wp2_with fail
  go_ret
  exact ⟨rfl, T0.then_no t4⟩

theorem zeroS_eq (W : World) : (binOp .eql 33 (.agg zeroS) (.agg zeroS)).run Tryd.prog W = .ok (.bool true) W := by
  have := eql33 W (List.replicate 16 0) (List.replicate 16 0) (by simp) (by simp)
  rwa [beq_self_eq_true] at this
set_option maxRecDepth 100000 in
set_option maxHeartbeats 4000000 in
theorem mute19 (w : World) (v : Value) (h : No w v) (va' : Option Addr) (n c : Nat) : Calls Tryd.prog 19 #[v, .slice va' n c] w fun e w' => e = .returned (.bool true) ∧ Turn no w w' := by
  have hsg := sign_no w v h va' n c
  have had := fun W (t : Turn no w W) => addr_no W v (h.turn t)
  have he := fun W => zeroS_eq W
  have hzb : zeroS = #[.int .u8 0, .int .u8 0, .int .u8 0, .int .u8 0, .int .u8 0, .int .u8 0, .int .u8 0, .int .u8 0, .int .u8 0, .int .u8 0, .int .u8 0, .int .u8 0, .int .u8 0, .int .u8 0, .int .u8 0, .int .u8 0] := rfl
  rw [hzb] at hsg he
  clear hzb
  obtain ⟨pa, rfl⟩ := h.form
  go_enter Tryd.func19, Tryd.ntmps19
  go_wp2_with fail
  refine hsg.mono ?_
  rintro e w2 ⟨rfl, t2⟩
  have T5 : ∀ z, Turn no w (w2.alloc (.cells z 33)) := fun z => t2.alloc _
  go_wp2_with fail
  refine (num11 _ _).mono ?_
  rintro e w4 ⟨rfl, he4⟩
  subst he4
  go_wp2_with fail
  refine (had _ (T5 _)).mono ?_
  rintro e w4 ⟨rfl, he4⟩
  subst he4
  go_wp2_with fail
  go_ret
  exact ⟨rfl, T5 _⟩

end Go.Proofs.YtnlcngcilojnkaaDoor
