/- Walks: a Reader's reads of numbers: Byte, Bool, U32, U64, Count; Mul64. -/
import Derived.Test.YtpfjllkmaogafaaW8
import Derived.Lib.Mul64
namespace Go.Proofs.Ytpfjllkmaogafaa
open Go.RowKit

set_option maxRecDepth 100000 in
set_option maxHeartbeats 1000000 in
theorem byte_good (w : World) (p : Nat) (v : Value) (bs : List UInt8) (i : Nat)  (h : Rd w p v bs i 0) (hn : 1 ≤ bs.length - i) :
    Calls Try.prog 88 #[.pointer (some ⟨p, 0, none⟩)] w fun e w' => e = .returned (.int .u8 (lsum (bs.drop i) 1)) ∧ Rd w' p v bs (i + 1) 0 ∧ Turn (fun k => k = p) w w' := by
  have hlt := h.lt
  have hW := h.turn_no ((Turn.refl no w).alloc (.cells #[.pointer (some ⟨p, 0, none⟩)] 129))
  have c2 := h.c2
  have hl1 := lsum_lt (bs.drop i) 1
  have hl2 : ((lsum (bs.drop i) 1 : Nat) : Int) < 256 := by omega
  go_enter Try.func88, Try.ntmps88
  go_wp2_with (first | (go_at_call 130; refine (err_any _ _ _ hW.errs).mono ?_; rintro e w' ⟨rfl, rfl⟩) | (go_at_call 120; refine (fixed_good _ _ _ bs i 1 hW hn (by omega) (by omega)).mono ?_; rintro e w' ⟨rfl, k1, k2⟩) | go_in)
  go_ret
  exact ⟨rfl, k1, ((Turn.refl _ w).alloc _).trans k2 (fun _ _ q => q)⟩

set_option maxRecDepth 100000 in
set_option maxHeartbeats 1000000 in
theorem byte_bad (w : World) (p : Nat) (v : Value) (bs : List UInt8) (i : Nat)  (h : Rd w p v bs i 0) (hn : bs.length - i < 1) :
    Calls Try.prog 88 #[.pointer (some ⟨p, 0, none⟩)] w fun e w' => e = .returned (.int .u8 0) ∧ Rd w' p v bs i 10 ∧ Turn (fun k => k = p) w w' := by
  have hlt := h.lt
  have hW := h.turn_no ((Turn.refl no w).alloc (.cells #[.pointer (some ⟨p, 0, none⟩)] 129))
  have c2 := h.c2
  go_enter Try.func88, Try.ntmps88
  go_wp2_with (first | (go_at_call 130; refine (err_any _ _ _ hW.errs).mono ?_; rintro e w' ⟨rfl, rfl⟩) | (go_at_call 120; refine (fixed_bad _ _ _ bs i 1 hW hn (by omega)).mono ?_; rintro e w' ⟨rfl, k1, k2⟩; have q2 := k1.c2; have q3 := k1.c3; have f2 := k1.f 2; have f3 := k1.f 3) | go_in)
  go_ret
  exact ⟨rfl, (k1.setAt i h.le).setErr 10, (((Turn.refl _ w).alloc _).trans k2 (fun _ _ q => q)).trans ((Turn.set1 _ _ _ _).trans (Turn.set1 _ _ _ _) (fun _ _ q => q)) (fun _ _ q => q)⟩

end Go.Proofs.Ytpfjllkmaogafaa

