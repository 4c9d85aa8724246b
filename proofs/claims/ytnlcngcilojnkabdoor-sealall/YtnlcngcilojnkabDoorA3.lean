/- Check, Enter of the document's registry. -/
import Derived.Test.YtnlcngcilojnkabDoorA2
import Derived.Test.YtnlcngcilojnkabDoorO1
namespace Go.Proofs.YtnlcngcilojnkabDoor
open Go.RowKit Go.Maps Go.MuLone
set_option linter.unusedVariables false
theorem info28 : (Tryd.prog.info? 28).map (fun i => (i.zero, i.size, i.bytes)) = some (some (.int .u64 0), 1, 8) := by kernel_rfl
section
variable {w : World} {q : Nat} {ve vr : Value} {E : List UInt64} {R : List Rec}
set_option maxRecDepth 100000 in
set_option maxHeartbeats 4000000 in
theorem rcheck47 (h : Rf w q ve vr E R) (a : UInt64) (va : Value) (bs : List UInt8) (hb : Bs w va bs) (X : List UInt8) (hx : X.length = 16) (hl : Laid0 w) (h2 : 2 ≤ w.heap.size) (hsz : (a, bs) ∈ R → bs.length ≤ 1099511627776) :
    Calls Tryd.prog 47 #[.pointer (some ⟨q, 0, none⟩), .int .u64 a.toNat, va, .agg (X.map bv).toArray] w fun e w' => e = .returned (.bool (decide ((a, bs) ∈ R) && (X == sealB a bs))) ∧ Turn no w w' := by
  have hXl : (X.map bv).length = 16 := by simpa using hx
  have T0 : Turn no w (w.alloc (.cells (X.map bv).toArray 31)) := (Turn.refl no w).alloc _
  have RX := Row.new w (X.map bv).toArray 31
  have h0 := h.turn_no T0
  have hgd := good34 h0
  have hb0 := hb.turn_no T0
  have hl0 := hl.turn T0 (fun q => q)
  have hs0 := T0.size
  have hhas := rhas54 h0 a va bs hb0
  have hi : (Tryd.prog.info? 31).map (·.size) = some (X.map bv).length := by rw [hXl]; exact size33
  have hu := Tryd.underlying31
  obtain ⟨va', vc, hva⟩ := hb.slice
  subst hva
  by_cases hin : (a, bs) ∈ R
  · have hof := fun W (b : Bs W (.slice va' bs.length vc) bs) (l : Laid0 W) h2 => of17 W a _ bs b l h2 (hsz hin)
    have heq := fun W => eql33 W X (sealB a bs) hx (sealB_len a bs)
    rw [show ((sealB a bs).map bv).toArray = sealV a bs from rfl] at heq
    rw [show decide ((a, bs) ∈ R) = true by simpa using hin] at hhas ⊢
    rw [Bool.true_and]
    generalize (X == sealB a bs) = bq at *
    generalize sealV a bs = SV at *
    generalize X.map bv = XL at *
    clear hin hsz
    go_enter Tryd.func47, Tryd.ntmps47
    go_wp2_with fail
    generalize w.alloc (.cells XL.toArray 31) = w1 at *
    generalize w.heap.size = gx at *
    refine hgd.mono ?_
    rintro e w' ⟨rfl, e1⟩
    have e1 := e1.symm
    subst e1
    go_wp2_with fail
    refine hhas.mono ?_
    rintro e w2 ⟨rfl, t2⟩
    have hb2 := hb0.turn_no t2
    have hl2 := hl0.turn t2 (fun q => q)
    have RX2 := RX.turn t2 (fun q => q)
    have hs2 := t2.size
    go_wp2_with fail
    refine wp_region_held_drew (S := fun W => Turn no w2 W) (by kernel_rfl) (Turn.refl no w2).drew (fun hHeld => ?_)
    refine' wpAnyH_take (i := 0) (v := _) rfl (by kernel_rfl) (by kernel_rfl) (by kernel_rfl) (fun _ _ _ h => h) (yieldsIf_load_mid (by kernel_rfl) _ _ rfl gx 0 (by kernel_rfl) XL _ (fun W h => (RX2.turn h (fun q => q)).range) hu rfl hi) hHeld ?rl1
    refine' wpAnyH_take (i := 1) (v := .int .u64 a.toNat) rfl (by kernel_rfl) (by kernel_rfl) (by kernel_rfl) (fun _ _ _ h => h) (Or.inl ⟨by kernel_rfl, fun W hW => ?y1⟩) hHeld ?r1
    · go_simp
    refine' wpAnyH_take (i := 2) (v := .slice va' bs.length vc) rfl (by kernel_rfl) (by kernel_rfl) (by kernel_rfl) (fun _ _ _ h => h) (Or.inl ⟨by kernel_rfl, fun W hW => ?y2⟩) hHeld ?r2
    · go_simp
    refine wpAnyH_ready (rs := [3]) (by kernel_rfl) (by simp) ?_
    refine AllReadyH.cons rfl (fun K hK => ?_) AllReadyH.nil
    go_simp
    refine (hof _ (hb2.turn_no (Turn.refl no w2).drew) (hl2.turn (Turn.refl no w2).drew (fun q => q)) (by show 2 ≤ w2.heap.size; omega)).mono ?_
    rintro e w3 ⟨rfl, t3⟩
    have t3' : Turn no w2 w3 := (Turn.refl no w2).drew.then_no t3
    go_wp2_with fail
    refine hK.out _ _ t3' (fun hHeld => ?_)
    clear hK
    refine' wpAnyH_take (i := 4) (v := .bool bq) rfl (by kernel_rfl) (by kernel_rfl) (by kernel_rfl) (fun _ _ _ h => h) (Or.inl ⟨by kernel_rfl, fun W hW => ?y3⟩) hHeld ?r3
    · have c := heq W
      go_simp
    refine wpAnyH_ready (rs := [5]) (by kernel_rfl) (by simp) ?_
    refine AllReadyH.cons rfl (fun K hK => ?_) AllReadyH.nil
    go_simp
    refine hK.out _ _ hHeld (fun hHeld => ?_)
    clear hK
    refine wpAnyH_done (by kernel_rfl) ?_ _
    go_wp2_with fail
    go_ret
    exact ⟨rfl, (T0.then_no t2).then_no t3'⟩
  · rw [show decide ((a, bs) ∈ R) = false by simpa using hin] at hhas ⊢
    rw [Bool.false_and]
    generalize X.map bv = XL at *
    go_enter Tryd.func47, Tryd.ntmps47
    go_wp2_with fail
    generalize w.alloc (.cells XL.toArray 31) = w1 at *
    refine hgd.mono ?_
    rintro e w' ⟨rfl, e1⟩
    have e1 := e1.symm
    subst e1
    go_wp2_with fail
    refine hhas.mono ?_
    rintro e w2 ⟨rfl, t2⟩
    go_wp2_with fail
    go_ret
    exact ⟨rfl, T0.then_no t2⟩

theorem renter_zero (h : Rf w q ve vr E R) : Calls Tryd.prog 37 #[.pointer (some ⟨q, 0, none⟩), .int .u64 0] w fun e w' => e = .returned (.tuple #[.pointer none, .int .i64 2]) ∧ w' = w := by
  have hgd := good34 h
  go_enter Tryd.func37, Tryd.ntmps37
  go_wp2_with fail
  refine hgd.mono ?_
  rintro e w' ⟨rfl, e1⟩
  have e1 := e1.symm
  subst e1
  go_wp2_with fail
  go_ret2
  exact ⟨rfl, rfl⟩
theorem renter_twice (h : Rf w q ve vr E R) (a : UInt64) (ha : ¬ (a.toNat : Int) = 0) (hin : a ∈ E) : Calls Tryd.prog 37 #[.pointer (some ⟨q, 0, none⟩), .int .u64 a.toNat] w fun e w' => e = .returned (.tuple #[.pointer none, .int .i64 30]) ∧ w' = w := by
  have hgd := good34 h
  have hkn := rknown24 h a
  rw [show decide (a ∈ E) = true by simpa using hin] at hkn
  have ha1 : ((a.toNat : Int) == 0) = false := by simpa using ha
  go_enter Tryd.func37, Tryd.ntmps37
  go_wp2_with fail
  refine hgd.mono ?_
  rintro e w' ⟨rfl, e1⟩
  have e1 := e1.symm
  subst e1
  go_wp2_with fail
  refine hkn.mono ?_
  rintro e w' ⟨rfl, e1⟩
  have e1 := e1.symm
  subst e1
  go_wp2_with fail
  go_ret2
  exact ⟨rfl, rfl⟩
end
end Go.Proofs.YtnlcngcilojnkabDoor
