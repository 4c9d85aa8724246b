/- Check. -/
import Derived.Test.YtgbcdjjnpadddaaGreatDoorSq
namespace Go.Proofs.YtgbcdjjnpadddaaGreatDoor
open Go.RowKit Go.Maps Go.MuLone
set_option linter.unusedVariables false

theorem eqIn33 (w : World) (X Y : List UInt8) (hx : X.length = 16) (hy : Y.length = 16) : (Op.equalIn 10000 48 (.agg (X.map bv).toArray) (.agg (Y.map bv).toArray)).run Tryz.prog w = .ok (X == Y) w := by
  obtain ⟨i, hi⟩ : ∃ i, Tryz.prog.info? 5 = some i := by
    cases hq : Tryz.prog.info? 5 with
    | none => have := size5; simp [hq] at this
    | some i => exact ⟨i, rfl⟩
  rw [show (10000 : Nat) = 9999 + 1 from rfl, run_equalIn_array w 9999 _ _ Tryz.underlying48 hi]
  have hc : Tryz.prog.cellsOf 5 = 1 := by kernel_rfl
  rw [hc, eqItems_u8 w 9998 X Y _ (fun j hj => by simp at hj; omega), all_range X Y 16 hx hy]
theorem eql33 (w : World) (X Y : List UInt8) (hx : X.length = 16) (hy : Y.length = 16) : (binOp .eql 48 (.agg (X.map bv).toArray) (.agg (Y.map bv).toArray)).run Tryz.prog w = .ok (.bool (X == Y)) w := by
  rw [run_eql_struct, eqIn33 w X Y hx hy]
  rfl
theorem Row.range {w : World} {g : Nat} {l : List Value} {e : TypeId} (h : Row w g l.toArray e) : w.rangeAt g 0 l := fun j v hv => by
  rw [Nat.zero_add]
  exact h.cell j v (by simpa using hv)

section
variable {w : World} {p br bt n : Nat} {D1 D2 : DataW Value}
set_option maxRecDepth 100000 in
set_option maxHeartbeats 4000000 in
theorem check_no (h : Reg w p br bt n D1 D2) (a : UInt64) (va : Value) (bs : List UInt8) (hb : Bs w va bs) (hbp : bs ≠ [] → va.ownBlock ≠ some p) (X : List UInt8) (hx : X.length = 16) (hno : has D1 (recKey Tryz.prog a ⟨bs.toArray⟩) = false) :
    Calls Tryz.prog 68 #[.pointer (some ⟨p, 0, none⟩), .int .u64 a.toNat, va, .agg (X.map bv).toArray] w fun e w' => e = .returned (.bool false) ∧ Reg w' p br bt n D1 D2 ∧ Turn (fun k => k = p) w w' := by
  have hXs : (X.map bv).toArray.size = 16 := by simpa using hx
  generalize (X.map bv).toArray = XV at *
  have T0 : Turn no w (w.alloc (.cells XV 48)) := (Turn.refl no w).alloc _
  have h0 := h.turn T0 (fun q => q) (fun q => q) (fun q => q)
  have hb0 := hb.turn_no T0
  have hhas := fun W (hW : Reg W p br bt n D1 D2) => has32 hW a ⟨bs.toArray⟩ (by have := hb.le; simpa [ByteArray.size] using this)
  simp only [hno] at hhas
  obtain ⟨va', vc, hva⟩ := hb.slice
  subst hva
  unfold recV at hhas
  go_enter Tryz.func68, Tryz.ntmps68
  go_wp2_with fail
  generalize w.alloc (.cells XV 48) = w1 at *
  have Sb : ∀ W, Turn (fun k => k = p) w1 W → Bs W (.slice va' bs.length vc) bs := fun W hW => hb0.late hW (fun hne g hg e => hbp hne (by rw [hg, e]))
  refine wp_region_held_drew (S := fun W => Turn (fun k => k = p) w1 W) (by kernel_rfl) (Turn.refl _ w1).drew (fun hHeld => ?_)
  have h1 := h0.turn (Turn.refl no w1).drew (fun q => q) (fun q => q) (fun q => q)
  refine' wpAnyH_take (i := 0) (v := .pointer (some ⟨p, 0, none⟩)) rfl (by kernel_rfl) (by kernel_rfl) (by kernel_rfl) (fun _ _ _ h => h) (Or.inl ⟨by rfl, fun W hW => ?y1⟩) hHeld ?r1
  · go_simp
  refine wpAnyH_ready (rs := [1]) (by kernel_rfl) (by simp) ?_
  refine AllReadyH.cons rfl (fun K hK => ?_) AllReadyH.nil
  go_simp
  refine (made25 _ p (Reg.c0 h1)).mono ?_
  rintro e w2 ⟨rfl, he2⟩
  go_wp2_with fail
  subst he2
  refine hK.out _ _ hHeld (fun hHeld => ?_)
  clear hK
  refine' wpAnyH_take (i := 2) (v := .bool true) rfl (by kernel_rfl) (by kernel_rfl) (by kernel_rfl) (fun _ _ _ h => h) (Or.inl ⟨by rfl, fun W hW => ?y2⟩) hHeld ?r2
  · go_simp
  refine' wpAnyH_take (i := 3) (v := .pointer (some ⟨p, 0, none⟩)) rfl (by kernel_rfl) (by kernel_rfl) (by kernel_rfl) (fun _ _ _ h => h) (Or.inl ⟨by rfl, fun W hW => ?y3⟩) hHeld ?r3
  · go_simp
  refine' wpAnyH_take (i := 4) (v := .int .u64 a.toNat) rfl (by kernel_rfl) (by kernel_rfl) (by kernel_rfl) (fun _ _ _ h => h) (Or.inl ⟨by rfl, fun W hW => ?y4⟩) hHeld ?r4
  · go_simp
  refine' wpAnyH_take (i := 5) (v := .slice va' bs.length vc) rfl (by kernel_rfl) (by kernel_rfl) (by kernel_rfl) (fun _ _ _ h => h) (Or.inl ⟨by rfl, fun W hW => ?y5⟩) hHeld ?r5
  · go_simp
  refine' wpAnyH_take (i := 6) (v := .string ⟨bs.toArray⟩) rfl (by kernel_rfl) (by kernel_rfl) (by kernel_rfl) (fun _ _ _ h => h) (Or.inl ⟨by rfl, fun W hW => ?y6⟩) hHeld ?r6
  · have c := bytes_text (Sb W hW)
    go_simp
  refine' wpAnyH_take (i := 7) (v := .agg #[.int .u64 a.toNat, .string ⟨bs.toArray⟩]) rfl (by kernel_rfl) (by kernel_rfl) (by kernel_rfl) (fun _ _ _ h => h) (Or.inl ⟨by rfl, fun W hW => ?y7⟩) hHeld ?r7
  · go_simp
  refine wpAnyH_ready (rs := [8]) (by kernel_rfl) (by simp) ?_
  refine AllReadyH.cons rfl (fun K hK => ?_) AllReadyH.nil
  go_simp
  refine (hhas _ h1).mono ?_
  rintro e w3 ⟨rfl, h3, t3⟩
  have t3' : Turn (fun k => k = p) w1 w3 := ((Turn.refl no w1).drew.of_no).trans t3 (fun _ _ q => q)
  go_wp2_with fail
  refine hK.out _ _ t3' (fun hHeld => ?_)
  clear hK
  refine' wpAnyH_take (i := 9) (v := .bool false) rfl (by kernel_rfl) (by kernel_rfl) (by kernel_rfl) (fun _ _ _ h => h) (Or.inl ⟨by rfl, fun W hW => ?y8⟩) hHeld ?r8
  · go_simp
  refine' wpAnyH_take (i := 10) (v := .bool false) rfl (by kernel_rfl) (by kernel_rfl) (by kernel_rfl) (fun _ _ _ h => h) (Or.inl ⟨by rfl, fun W hW => ?y9⟩) hHeld ?r9
  · go_simp
  refine' wpAnyH_take (i := 11) (v := undef) rfl (by kernel_rfl) (by kernel_rfl) (by kernel_rfl) (fun _ _ _ h => h) (Or.inr ⟨by rfl, rfl⟩) hHeld ?r10
  refine' wpAnyH_take (i := 12) (v := undef) rfl (by kernel_rfl) (by kernel_rfl) (by kernel_rfl) (fun _ _ _ h => h) (Or.inr ⟨by rfl, rfl⟩) hHeld ?r11
  refine' wpAnyH_take (i := 13) (v := undef) rfl (by kernel_rfl) (by kernel_rfl) (by kernel_rfl) (fun _ _ _ h => h) (Or.inr ⟨by rfl, rfl⟩) hHeld ?r12
  refine' wpAnyH_take (i := 14) (v := undef) rfl (by kernel_rfl) (by kernel_rfl) (by kernel_rfl) (fun _ _ _ h => h) (Or.inr ⟨by rfl, rfl⟩) hHeld ?r13
  refine' wpAnyH_take (i := 15) (v := undef) rfl (by kernel_rfl) (by kernel_rfl) (by kernel_rfl) (fun _ _ _ h => h) (Or.inr ⟨by rfl, rfl⟩) hHeld ?r14
  refine' wpAnyH_take (i := 16) (v := .bool false) rfl (by kernel_rfl) (by kernel_rfl) (by kernel_rfl) (fun _ _ _ h => h) (Or.inl ⟨by rfl, fun W hW => ?y15⟩) hHeld ?r15
  · go_simp
  refine wpAnyH_ready (rs := [17]) (by kernel_rfl) (by simp) ?_
  refine AllReadyH.cons rfl (fun K hK => ?_) AllReadyH.nil
  go_simp
  refine hK.out _ _ hHeld (fun hHeld => ?_)
  clear hK
  refine wpAnyH_done (by kernel_rfl) ?_ _
  go_wp2_with fail
  go_ret
  exact ⟨rfl, h3, T0.of_no.trans t3' (fun _ _ q => q)⟩

set_option maxRecDepth 100000 in
set_option maxHeartbeats 4000000 in
theorem check_yes (h : Reg w p br bt n D1 D2) (a : UInt64) (va : Value) (bs : List UInt8) (hb : Bs w va bs) (hbp : bs ≠ [] → va.ownBlock ≠ some p) (X : List UInt8) (hx : X.length = 16) (hyes : has D1 (recKey Tryz.prog a ⟨bs.toArray⟩) = true) (hl : Laid1 w) (h2 : 3 ≤ w.heap.size) (hp1 : p ≠ 2) (hsz : bs.length ≤ 1099511627776) :
    Calls Tryz.prog 68 #[.pointer (some ⟨p, 0, none⟩), .int .u64 a.toNat, va, .agg (X.map bv).toArray] w fun e w' => e = .returned (.bool (X == sealB a bs)) ∧ Reg w' p br bt n D1 D2 ∧ Turn (fun k => k = p) w w' := by
  have hXl : (X.map bv).length = 16 := by simpa using hx
  have heq := fun W => eql33 W X (sealB a bs) hx (sealB_len a bs)
  have hsV : ((sealB a bs).map bv).toArray = sealV a bs := rfl
  rw [hsV] at heq
  generalize (X == sealB a bs) = B at *
  generalize X.map bv = XL at *
  have T0 : Turn no w (w.alloc (.cells XL.toArray 48)) := (Turn.refl no w).alloc _
  have RX := Row.new w XL.toArray 48
  have h0 := h.turn T0 (fun q => q) (fun q => q) (fun q => q)
  have hb0 := hb.turn_no T0
  have hl0 := hl.turn T0 (fun q => q)
  have hsz0 := T0.size
  have hpg : ∃ d, w.heap.size = p + 1 + d := ⟨w.heap.size - (p + 1), by have := Row.lt h.row; omega⟩
  have hhas := fun W (hW : Reg W p br bt n D1 D2) => has32 hW a ⟨bs.toArray⟩ (by have := hb.le; simpa [ByteArray.size] using this)
  simp only [hyes] at hhas
  have hu := Tryz.underlying48
  have hi : (Tryz.prog.info? 48).map (·.size) = some XL.length := by rw [hXl]; exact size33
  have hseal := fun W (b : Bs W va bs) l h2 => sealOf31 W a va bs b l h2 hsz
  generalize sealV a bs = SV at *
  obtain ⟨va', vc, hva⟩ := hb.slice
  subst hva
  unfold recV at hhas
  go_enter Tryz.func68, Tryz.ntmps68
  go_wp2_with fail
  generalize w.alloc (.cells XL.toArray 48) = w1 at *
  have Sb : ∀ W, Turn (fun k => k = p) w1 W → Bs W (.slice va' bs.length vc) bs := fun W hW => hb0.late hW (fun hne g hg e => hbp hne (by rw [hg, e]))
  refine wp_region_held_drew (S := fun W => Turn (fun k => k = p) w1 W) (by kernel_rfl) (Turn.refl _ w1).drew (fun hHeld => ?_)
  have h1 := h0.turn (Turn.refl no w1).drew (fun q => q) (fun q => q) (fun q => q)
  refine' wpAnyH_take (i := 0) (v := .pointer (some ⟨p, 0, none⟩)) rfl (by kernel_rfl) (by kernel_rfl) (by kernel_rfl) (fun _ _ _ h => h) (Or.inl ⟨by rfl, fun W hW => ?y16⟩) hHeld ?r16
  · go_simp
  refine wpAnyH_ready (rs := [1]) (by kernel_rfl) (by simp) ?_
  refine AllReadyH.cons rfl (fun K hK => ?_) AllReadyH.nil
  go_simp
  refine (made25 _ p (Reg.c0 h1)).mono ?_
  rintro e w2 ⟨rfl, he2⟩
  go_wp2_with fail
  subst he2
  refine hK.out _ _ hHeld (fun hHeld => ?_)
  clear hK
  refine' wpAnyH_take (i := 2) (v := .bool true) rfl (by kernel_rfl) (by kernel_rfl) (by kernel_rfl) (fun _ _ _ h => h) (Or.inl ⟨by rfl, fun W hW => ?y17⟩) hHeld ?r17
  · go_simp
  refine' wpAnyH_take (i := 3) (v := .pointer (some ⟨p, 0, none⟩)) rfl (by kernel_rfl) (by kernel_rfl) (by kernel_rfl) (fun _ _ _ h => h) (Or.inl ⟨by rfl, fun W hW => ?y18⟩) hHeld ?r18
  · go_simp
  refine' wpAnyH_take (i := 4) (v := .int .u64 a.toNat) rfl (by kernel_rfl) (by kernel_rfl) (by kernel_rfl) (fun _ _ _ h => h) (Or.inl ⟨by rfl, fun W hW => ?y19⟩) hHeld ?r19
  · go_simp
  refine' wpAnyH_take (i := 5) (v := .slice va' bs.length vc) rfl (by kernel_rfl) (by kernel_rfl) (by kernel_rfl) (fun _ _ _ h => h) (Or.inl ⟨by rfl, fun W hW => ?y20⟩) hHeld ?r20
  · go_simp
  refine' wpAnyH_take (i := 6) (v := .string ⟨bs.toArray⟩) rfl (by kernel_rfl) (by kernel_rfl) (by kernel_rfl) (fun _ _ _ h => h) (Or.inl ⟨by rfl, fun W hW => ?y21⟩) hHeld ?r21
  · have c := bytes_text (Sb W hW)
    go_simp
  refine' wpAnyH_take (i := 7) (v := .agg #[.int .u64 a.toNat, .string ⟨bs.toArray⟩]) rfl (by kernel_rfl) (by kernel_rfl) (by kernel_rfl) (fun _ _ _ h => h) (Or.inl ⟨by rfl, fun W hW => ?y22⟩) hHeld ?r22
  · go_simp
  refine wpAnyH_ready (rs := [8]) (by kernel_rfl) (by simp) ?_
  refine AllReadyH.cons rfl (fun K hK => ?_) AllReadyH.nil
  go_simp
  refine (hhas _ h1).mono ?_
  rintro e w3 ⟨rfl, h3, t3⟩
  have t3' : Turn (fun k => k = p) w1 w3 := ((Turn.refl no w1).drew.of_no).trans t3 (fun _ _ q => q)
  go_wp2_with fail
  refine hK.out _ _ t3' (fun hHeld => ?_)
  clear hK
  refine' wpAnyH_take (i := 9) (v := .bool true) rfl (by kernel_rfl) (by kernel_rfl) (by kernel_rfl) (fun _ _ _ h => h) (Or.inl ⟨by rfl, fun W hW => ?y23⟩) hHeld ?r23
  · go_simp
  refine' wpAnyH_take (i := 10) (v := .bool true) rfl (by kernel_rfl) (by kernel_rfl) (by kernel_rfl) (fun _ _ _ h => h) (Or.inl ⟨by rfl, fun W hW => ?y24⟩) hHeld ?r24
  · go_simp
  refine' wpAnyH_take (i := 11) (v := _) rfl (by kernel_rfl) (by kernel_rfl) (by kernel_rfl) (fun _ _ _ h => h) (yieldsIf_load_mid (by rfl) _ _ rfl _ _ rfl XL _ (fun W h => (RX.turn h (fun q => by obtain ⟨d, hd⟩ := hpg; omega)).range) hu rfl hi) hHeld ?rl
  refine' wpAnyH_take (i := 12) (v := .int .u64 a.toNat) rfl (by kernel_rfl) (by kernel_rfl) (by kernel_rfl) (fun _ _ _ h => h) (Or.inl ⟨by rfl, fun W hW => ?y25⟩) hHeld ?r25
  · go_simp
  refine' wpAnyH_take (i := 13) (v := .slice va' bs.length vc) rfl (by kernel_rfl) (by kernel_rfl) (by kernel_rfl) (fun _ _ _ h => h) (Or.inl ⟨by rfl, fun W hW => ?y26⟩) hHeld ?r26
  · go_simp
  refine wpAnyH_ready (rs := [14]) (by kernel_rfl) (by simp) ?_
  refine AllReadyH.cons rfl (fun K hK => ?_) AllReadyH.nil
  go_simp
  refine (hseal _ (Sb w3 t3') (hl0.turn t3' (fun e => hp1 e.symm)) (by have := t3'.size; omega)).mono ?_
  rintro e w4 ⟨rfl, t4⟩
  have t4' : Turn (fun k => k = p) w1 w4 := t3'.then_no t4
  go_wp2_with fail
  refine hK.out _ _ t4' (fun hHeld => ?_)
  clear hK
  refine' wpAnyH_take (i := 15) (v := .bool B) rfl (by kernel_rfl) (by kernel_rfl) (by kernel_rfl) (fun _ _ _ h => h) (Or.inl ⟨by rfl, fun W hW => ?y27⟩) hHeld ?r27
  · go_simp
  refine' wpAnyH_take (i := 16) (v := .bool B) rfl (by kernel_rfl) (by kernel_rfl) (by kernel_rfl) (fun _ _ _ h => h) (Or.inl ⟨by rfl, fun W hW => ?y28⟩) hHeld ?r28
  · go_simp
  refine wpAnyH_ready (rs := [17]) (by kernel_rfl) (by simp) ?_
  refine AllReadyH.cons rfl (fun K hK => ?_) AllReadyH.nil
  go_simp
  refine hK.out _ _ hHeld (fun hHeld => ?_)
  clear hK
  refine wpAnyH_done (by kernel_rfl) ?_ _
  go_wp2_with fail
  go_ret
  exact ⟨rfl, h3.turn t4 (fun q => q) (fun q => q) (fun q => q), T0.of_no.trans t4' (fun _ _ q => q)⟩
end
end Go.Proofs.YtgbcdjjnpadddaaGreatDoor


