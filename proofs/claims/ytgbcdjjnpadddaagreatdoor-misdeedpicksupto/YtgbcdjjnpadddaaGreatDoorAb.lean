/- Texts in one. -/
import Derived.Test.YtgbcdjjnpadddaaGreatDoorA2
import Derived.Test.YtgbcdjjnpadddaaGreatDoorO1
import Derived.Deep.RegionLaw
/- Check, Enter of the document's registry. -/
namespace Go.Proofs.YtgbcdjjnpadddaaGreatDoor
open Go.RowKit Go.Maps Go.MuLone
set_option linter.unusedVariables false
theorem info28 : (Tryz.prog.info? 46).map (fun i => (i.zero, i.size, i.bytes)) = some (some (.int .u64 0), 1, 8) := by kernel_rfl
section
variable {w : World} {q : Nat} {ve vr : Value} {E : List UInt64} {R : List Rec}
set_option maxRecDepth 100000 in
set_option maxHeartbeats 4000000 in
theorem rcheck47 (h : Rf w q ve vr E R) (a : UInt64) (va : Value) (bs : List UInt8) (hb : Bs w va bs) (X : List UInt8) (hx : X.length = 16) (hl : Laid0 w) (h2 : 3 ≤ w.heap.size) (hsz : (a, bs) ∈ R → bs.length ≤ 1099511627776) :
    Calls Tryz.prog 97 #[.pointer (some ⟨q, 0, none⟩), .int .u64 a.toNat, va, .agg (X.map bv).toArray] w fun e w' => e = .returned (.bool (decide ((a, bs) ∈ R) && (X == sealB a bs))) ∧ Turn no w w' := by
  have hXl : (X.map bv).length = 16 := by simpa using hx
  have T0 : Turn no w (w.alloc (.cells (X.map bv).toArray 48)) := (Turn.refl no w).alloc _
  have RX := Row.new w (X.map bv).toArray 48
  have h0 := h.turn_no T0
  have hgd := good34 h0
  have hb0 := hb.turn_no T0
  have hl0 := hl.turn T0 (fun q => q)
  have hs0 := T0.size
  have hhas := rhas54 h0 a va bs hb0
  have hi : (Tryz.prog.info? 48).map (·.size) = some (X.map bv).length := by rw [hXl]; exact size33
  have hu := Tryz.underlying48
  obtain ⟨va', vc, hva⟩ := hb.slice
  subst hva
  by_cases hin : (a, bs) ∈ R
  · have hof := fun W (b : Bs W (.slice va' bs.length vc) bs) (l : Laid0 W) h2 => of17 W a _ bs b l h2 (hsz hin)
    have heq := fun W => eql33 W X (sealB a bs) hx (sealB_len a bs)
    rw [show ((sealB a bs).map bv).toArray = sealV a bs from rfl] at heq
    rw [show decide ((a, bs) ∈ R) = true by simpa using hin] at hhas ⊢
    rw [Bool.true_and]
    generalize (X == sealB a bs) = bq at *
    generalize sealV a bs = SV at *
    generalize X.map bv = XL at *
    clear hin hsz
    go_enter Tryz.func97, Tryz.ntmps97
    go_wp2_with fail
    generalize w.alloc (.cells XL.toArray 48) = w1 at *
    generalize w.heap.size = gx at *
    refine hgd.mono ?_
    rintro e w' ⟨rfl, e1⟩
    have e1 := e1.symm
    subst e1
    go_wp2_with fail
    refine hhas.mono ?_
    rintro e w2 ⟨rfl, t2⟩
    have hb2 := hb0.turn_no t2
    have hl2 := hl0.turn t2 (fun q => q)
    have RX2 := RX.turn t2 (fun q => q)
    have hs2 := t2.size
    go_wp2_with fail
    refine wp_region_held_drew (S := fun W => Turn no w2 W) (by kernel_rfl) (Turn.refl no w2).drew (fun hHeld => ?_)
    refine' wpAnyH_take (i := 0) (v := _) rfl (by kernel_rfl) (by kernel_rfl) (by kernel_rfl) (fun _ _ _ h => h) (yieldsIf_load_mid (by kernel_rfl) _ _ rfl gx 0 (by kernel_rfl) XL _ (fun W h => (RX2.turn h (fun q => q)).range) hu rfl hi) hHeld ?rl1
    refine' wpAnyH_take (i := 1) (v := .int .u64 a.toNat) rfl (by kernel_rfl) (by kernel_rfl) (by kernel_rfl) (fun _ _ _ h => h) (Or.inl ⟨by kernel_rfl, fun W hW => ?y1⟩) hHeld ?r1
    · go_simp
    refine' wpAnyH_take (i := 2) (v := .slice va' bs.length vc) rfl (by kernel_rfl) (by kernel_rfl) (by kernel_rfl) (fun _ _ _ h => h) (Or.inl ⟨by kernel_rfl, fun W hW => ?y2⟩) hHeld ?r2
    · go_simp
    refine wpAnyH_ready (rs := [3]) (by kernel_rfl) (by simp) ?_
    refine AllReadyH.cons rfl (fun K hK => ?_) AllReadyH.nil
    go_simp
    refine (hof _ (hb2.turn_no (Turn.refl no w2).drew) (hl2.turn (Turn.refl no w2).drew (fun q => q)) (by show 3 ≤ w2.heap.size; omega)).mono ?_
    rintro e w3 ⟨rfl, t3⟩
    have t3' : Turn no w2 w3 := (Turn.refl no w2).drew.then_no t3
    go_wp2_with fail
    refine hK.out _ _ t3' (fun hHeld => ?_)
    clear hK
    refine' wpAnyH_take (i := 4) (v := .bool bq) rfl (by kernel_rfl) (by kernel_rfl) (by kernel_rfl) (fun _ _ _ h => h) (Or.inl ⟨by kernel_rfl, fun W hW => ?y3⟩) hHeld ?r3
    · have c := heq W
      go_simp
    refine wpAnyH_ready (rs := [5]) (by kernel_rfl) (by simp) ?_
    refine AllReadyH.cons rfl (fun K hK => ?_) AllReadyH.nil
    go_simp
    refine hK.out _ _ hHeld (fun hHeld => ?_)
    clear hK
    refine wpAnyH_done (by kernel_rfl) ?_ _
    go_wp2_with fail
    go_ret
    exact ⟨rfl, (T0.then_no t2).then_no t3'⟩
  · rw [show decide ((a, bs) ∈ R) = false by simpa using hin] at hhas ⊢
    rw [Bool.false_and]
    generalize X.map bv = XL at *
    go_enter Tryz.func97, Tryz.ntmps97
    go_wp2_with fail
    generalize w.alloc (.cells XL.toArray 48) = w1 at *
    refine hgd.mono ?_
    rintro e w' ⟨rfl, e1⟩
    have e1 := e1.symm
    subst e1
    go_wp2_with fail
    refine hhas.mono ?_
    rintro e w2 ⟨rfl, t2⟩
    go_wp2_with fail
    go_ret
    exact ⟨rfl, T0.then_no t2⟩

theorem renter_zero (h : Rf w q ve vr E R) : Calls Tryz.prog 26 #[.pointer (some ⟨q, 0, none⟩), .int .u64 0] w fun e w' => e = .returned (.tuple #[.pointer none, .int .i64 2]) ∧ w' = w := by
  have hgd := good34 h
  go_enter Tryz.func26, Tryz.ntmps26
  go_wp2_with fail
  refine hgd.mono ?_
  rintro e w' ⟨rfl, e1⟩
  have e1 := e1.symm
  subst e1
  go_wp2_with fail
  go_ret2
  exact ⟨rfl, rfl⟩
theorem renter_twice (h : Rf w q ve vr E R) (a : UInt64) (ha : ¬ (a.toNat : Int) = 0) (hin : a ∈ E) : Calls Tryz.prog 26 #[.pointer (some ⟨q, 0, none⟩), .int .u64 a.toNat] w fun e w' => e = .returned (.tuple #[.pointer none, .int .i64 30]) ∧ w' = w := by
  have hgd := good34 h
  have hkn := rknown24 h a
  rw [show decide (a ∈ E) = true by simpa using hin] at hkn
  have ha1 : ((a.toNat : Int) == 0) = false := by simpa using ha
  go_enter Tryz.func26, Tryz.ntmps26
  go_wp2_with fail
  refine hgd.mono ?_
  rintro e w' ⟨rfl, e1⟩
  have e1 := e1.symm
  subst e1
  go_wp2_with fail
  refine hkn.mono ?_
  rintro e w' ⟨rfl, e1⟩
  have e1 := e1.symm
  subst e1
  go_wp2_with fail
  go_ret2
  exact ⟨rfl, rfl⟩
end
end Go.Proofs.YtgbcdjjnpadddaaGreatDoor



/- Enter, Signed of the document's registry. -/
namespace Go.Proofs.YtgbcdjjnpadddaaGreatDoor
open Go.RowKit Go.Maps Go.MuLone
set_option linter.unusedVariables false
section
variable {w : World} {q : Nat} {ve vr : Value} {E : List UInt64} {R : List Rec}
set_option maxRecDepth 100000 in
set_option maxHeartbeats 4000000 in
theorem renter_new (h : Rf w q ve vr E R) (a : UInt64) (ha : ¬ (a.toNat : Int) = 0) (hin : a ∉ E) (hm : E.length ≤ 4398046511104) : Calls Tryz.prog 26 #[.pointer (some ⟨q, 0, none⟩), .int .u64 a.toNat] w fun e w' =>
    ∃ s ve', e = .returned (.tuple #[.pointer (some ⟨s, 0, none⟩), .int .i64 0]) ∧ w.heap.size ≤ s ∧ Rsg w' s q a ∧ Rf w' q ve' vr (E ++ [a]) R ∧ (∀ g, ve'.ownBlock = some g → ve.ownBlock = some g ∨ w.heap.size ≤ g) ∧ Turn (fun k => k = q ∨ ve.ownBlock = some k) w w' := by
  have hgd := good34 h
  have hkn := rknown24 h a
  rw [show decide (a ∈ E) = false by simpa using hin] at hkn
  have ha1 : ((a.toNat : Int) == 0) = false := by simpa using ha
  obtain ⟨aa, cp, e0, _⟩ := h.ents_at
  obtain ⟨n, hn⟩ : ∃ n, Shut (E.length = n) := ⟨_, rfl⟩
  rw [show E.length = n from hn.out] at e0
  subst e0
  have c1 : w.cell? ⟨q, 1, none⟩ = some (.slice aa n cp) := h.row.cell 1 _ rfl
  have hql : q < w.heap.size := h.row.lt
  have OWN := h.oe.turn_no ((Turn.refl no w).alloc (.cells #[.int .u64 a.toNat] 46))
  have SRC := src_oneT (P := Tryz.prog) (e := 46) Tryz.underlying38 w (u64V a) rfl
  have hfin : Shut (∀ v2 w2, Own w2 46 v2 (E.map u64V ++ [u64V a]) → Grew (w.alloc (.cells #[.int .u64 a.toNat] 46)) w2 (.slice aa n cp) v2 → Row w2 q #[.bool true, .slice aa n cp, vr] 138 ∧ Rf (w2.setCell ⟨q, 1, none⟩ v2) q v2 vr (E ++ [a]) R ∧ (∀ g, v2.ownBlock = some g → (Value.slice aa n cp).ownBlock = some g ∨ w.heap.size ≤ g) ∧ Turn (fun k => k = q ∨ (Value.slice aa n cp).ownBlock = some k) w (w2.setCell ⟨q, 1, none⟩ v2)) := fun v2 w2 O2 G2 => by
    have t1 : Turn no w (w.alloc (.cells #[.int .u64 a.toNat] 46)) := (Turn.refl no w).alloc _
    have r1 := h.row.turn t1 (fun q => q)
    have o1 := h.oe.turn_no t1
    have r2 := r1.turn G2.turn (fun e => o1.away r1 (by decide) e)
    have or1 := h.orr.turn_no t1
    have hne : ∀ g, vr.ownBlock = some g → ¬ (Value.slice aa n cp).ownBlock = some g := fun g hg e => by
      obtain ⟨c, ho⟩ := or1.obj hg
      exact o1.away ho (by decide) e
    have or2 := or1.turn G2.turn hne
    have tS : Turn (fun k => k = q) w2 (w2.setCell ⟨q, 1, none⟩ v2) := (Turn.refl (fun k => k = q) w2).setCell (p := ⟨q, 1, none⟩) (fun _ => rfl) _
    refine ⟨r2, ⟨r2.set 1 v2, ?_, or2.turn tS (fun g hg e => ?_)⟩, fun g hg => ?_, ?_⟩
    · have := O2.turn tS (fun g hg e => by subst e; exact O2.away r2 (by decide) hg)
      simpa using this
    · subst e
      obtain ⟨c, ho⟩ := or2.obj hg
      exact absurd (tag_ne ho r2) (by decide)
    · rcases G2.blk with e | ⟨g', e, h1, _⟩
      · exact .inl (by rw [← e]; exact hg)
      · rw [e] at hg
        cases hg
        simp at h1
        exact .inr (by omega)
    · exact ((t1.of_no.trans G2.turn (fun _ _ e => .inr e))).setCell (p := ⟨q, 1, none⟩) (fun _ => .inl rfl) _
  clear h
  go_enter Tryz.func26, Tryz.ntmps26
  go_wp2_with fail
  refine hgd.mono ?_
  rintro e w' ⟨rfl, e1⟩
  have e1 := e1.symm
  subst e1
  go_wp2_with fail
  refine hkn.mono ?_
  rintro e w' ⟨rfl, e1⟩
  have e1 := e1.symm
  subst e1
  go_wp2_with (at_builtin; refine wpList_append_src rfl (.tmp 18) (.tmp 20) rfl Tryz.underlying38 info28 rfl (.slice aa n cp) (E.map u64V) rfl OWN (.slice (some ⟨w.heap.size, 0, none⟩) 1 1) 1 [u64V a] rfl SRC (by rw [List.length_map]; omega) (by rw [List.length_map]; simp only [maxLen]; omega) ?_)
  intro v2 w2 O2 G2 _
  obtain ⟨r2, F2, f2, t2⟩ := hfin.out v2 w2 O2 G2
  have a2 : w2.cell? ⟨q, 1, none⟩ = some (.slice aa n cp) := r2.cell 1 _ rfl
  have z2 := r2.frozen 1
  obtain ⟨ad, ln, cq, hv2⟩ := O2.shp
  subst hv2
  clear OWN SRC hfin O2 G2 hgd hkn c1
  go_wp2_with fail
  go_ret2
  refine ⟨_, _, rfl, ?_, Row.newAt _ _ _ _ (by simp), F2.turn_no ((Turn.refl no _).alloc _), f2, t2.alloc _⟩
  have := t2.size
  simpa using this
end
end Go.Proofs.YtgbcdjjnpadddaaGreatDoor



/- Signed of the document's registry. -/
namespace Go.Proofs.YtgbcdjjnpadddaaGreatDoor
open Go.RowKit Go.Maps Go.MuLone
set_option linter.unusedVariables false
theorem txs_step (R : List Rec) (i : Nat) (x : Rec) (a : UInt64) (h : R[i]? = some x) : txs (R.take (i + 1)) a = txs (R.take i) a ++ (if a = x.1 then [x.2] else []) := by
  have e : R.take (i + 1) = R.take i ++ [(x.1, x.2)] := by rw [List.take_add_one, h]; rfl
  rw [e, txs_append]
section
variable {w : World} {q : Nat} {ve vr : Value} {E : List UInt64} {R : List Rec}
end
end Go.Proofs.YtgbcdjjnpadddaaGreatDoor


