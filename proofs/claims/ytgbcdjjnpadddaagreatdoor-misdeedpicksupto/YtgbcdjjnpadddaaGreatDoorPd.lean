/- Texts in one. -/
import Derived.Test.YtgbcdjjnpadddaaGreatDoorP10
import Derived.Maps.RangeWalk
/- Settle of a pool. -/
namespace Go.Proofs.YtgbcdjjnpadddaaGreatDoor
open Go.RowKit Go.Maps
set_option linter.unusedVariables false

/-- Is a height counted behind a state, and stands it there? -/
def fndP (P : List Pa) (age hh x : Nat) : Bool := decide ((x ≤ hh ∧ hh - x < age) ∧ ¬ idxP P x = -1)
def strike (L : List (Vt × Vt)) (X : List (Nat × Nat)) : List (Vt × Vt) := L.filter fun e => decide (keyE e ∉ X)
theorem strike_nil (L : List (Vt × Vt)) : strike L [] = L := by simp [strike]
theorem strike_snoc (L : List (Vt × Vt)) (X : List (Nat × Nat)) (x : Nat × Nat) : strike L (X ++ [x]) = (strike L X).filter fun e => decide (keyE e ≠ x) := by
  unfold strike
  rw [List.filter_filter]
  congr 1
  funext e
  by_cases h1 : keyE e = x <;> by_cases h2 : keyE e ∈ X <;> simp [h1, h2]
set_option maxRecDepth 100000 in
theorem sk_iff {x y : Nat × Nat} (hx : Off64 x) (hy : Off64 y) : (offKey Tryz.prog x).sameKey (offKey Tryz.prog y) = decide (x = y) := by
  by_cases h : x = y
  · subst h
    rw [WideAt.sameKey_self (offKey_key x hx)]
    simp
  · rw [sameKey_ne (fun q => h (offKey_inj hx hy q))]
    simp [h]
/-- What stands while a range of deletes is under way. -/
def midL (P : Program) (L : List (Vt × Vt)) (left : Lit → Bool) (f : Nat × Nat → Bool) : List (Vt × Vt) := L.filter fun e => left (offKey P (keyE e)) || f (keyE e)
set_option maxRecDepth 100000 in
theorem mid_keep {L : List (Vt × Vt)} (h64 : ∀ e ∈ L, Off64 (keyE e)) (left : Lit → Bool) (f : Nat × Nat → Bool) {x : Nat × Nat} (hx : Off64 x) (hf : f x = true) : midL Tryz.prog L (fun z => left z && !z.sameKey (offKey Tryz.prog x)) f = midL Tryz.prog L left f := by
  refine List.filter_congr fun e he => ?_
  show ((left (offKey Tryz.prog (keyE e)) && !(offKey Tryz.prog (keyE e)).sameKey (offKey Tryz.prog x)) || f (keyE e)) = _
  rw [sk_iff (h64 e he) hx]
  by_cases q : keyE e = x
  · rw [q, hf]; simp
  · simp [q]
set_option maxRecDepth 100000 in
theorem mid_start {D : DataW Value} {L : List (Vt × Vt)} (hm : Plm D L) (f : Nat × Nat → Bool) : midL Tryz.prog L (Maps.has D) f = L := by
  refine List.filter_eq_self.2 fun e he => ?_
  rw [(hm.has _ (keyE64 (hm.fit e he).1)).2 (List.mem_map_of_mem he)]
  rfl
set_option maxRecDepth 100000 in
theorem mid_end (L : List (Vt × Vt)) (left : Lit → Bool) (f : Nat × Nat → Bool) (hl : ∀ k, left k = false) : midL Tryz.prog L left f = L.filter fun e => f (keyE e) := by
  refine List.filter_congr fun e he => ?_
  rw [hl]
  rfl
set_option maxRecDepth 100000 in
theorem mid_drop {L : List (Vt × Vt)} (h64 : ∀ e ∈ L, Off64 (keyE e)) (left : Lit → Bool) (f : Nat × Nat → Bool) {x : Nat × Nat} (hx : Off64 x) (hf : f x = false) : midL Tryz.prog L (fun z => left z && !z.sameKey (offKey Tryz.prog x)) f = (midL Tryz.prog L left f).filter fun e => decide (keyE e ≠ x) := by
  unfold midL
  rw [List.filter_filter]
  refine List.filter_congr fun e he => ?_
  show ((left (offKey Tryz.prog (keyE e)) && !(offKey Tryz.prog (keyE e)).sameKey (offKey Tryz.prog x)) || f (keyE e)) = _
  rw [sk_iff (h64 e he) hx]
  by_cases q : keyE e = x
  · rw [q, hf]; simp
  · simp [q]
theorem CoP.fnd {P : List Pa} {age hh x : Nat} {vv : Value} {l : List Mb} {bb : Bool} (h : CoP P age hh x vv l bb) : bb = fndP P age hh x := by
  rcases h with ⟨rfl, h1, k, m, h2, _⟩ | ⟨rfl, _, _, h1⟩
  · symm
    simp only [fndP, decide_eq_true_eq]
    exact ⟨h1, by omega⟩
  · symm
    simp only [fndP, decide_eq_false_iff_not]
    rintro ⟨q1, q2⟩
    rcases h1 with q | q
    · exact q q1
    · exact q2 q
theorem ownsMap_fit {w : World} {P : Program} {k : TypeId} {R : Value → Option (DataW Value × List MemPlace)} {b n : Nat} {D : DataW Value} (h : w.ownsMap P k R b n D) : w.ownsMap P k R b (Maps.size D) D := by
  obtain ⟨es, clock, hb, F, hs, rfl⟩ := h
  refine ⟨es, clock, hb, F, ?_, rfl⟩
  rw [size_eq, length_sorted]
  simp
theorem Pl.of {w : World} {p b n : Nat} {L : List (Vt × Vt)} {D : DataW Value} (r : Row w p #[.pointer (some ⟨p, 0, none⟩), .map (some b)] 96) (o : w.ownsMap Tryz.prog 101 heldElem b n D) (m : Plm D L) : Pl w p b L := ⟨r, D, by rw [← m.sz]; exact ownsMap_fit o, m⟩
theorem ranges_turn {S : Nat → Prop} {w w' : World} {k : TypeId} {R : Value → Option (DataW Value × List MemPlace)} {b r n : Nat} {D : DataW Value} {left : Lit → Bool} {cnt : Nat} (h : w.ranges Tryz.prog k R b r n D left cnt) (t : Turn S w w') (hb : ¬ S b) (hr : ¬ S r) : w'.ranges Tryz.prog k R b r n D left cnt := by
  obtain ⟨es, clock, since, seen, c0, h1, h2, h3, h4, h5, h6⟩ := h
  exact ⟨es, clock, since, seen, c0, t.obj h1 hb, h2, h3, h4, t.obj h5 hr, h6⟩
theorem Pl.drop {w : World} {p b : Nat} {L : List (Vt × Vt)} (h : Pl w p b L) (x : Nat × Nat) (hx : Off64 x) (ty : TypeId) : ∃ wd, (Builtin.delete_ #[94, 101] ty #[.map (some b), offV x]).run Tryz.prog w = .ok (.tuple #[]) wd ∧ Pl wd p b (L.filter fun e => decide (keyE e ≠ x)) ∧ Turn (fun k => k = b) w wd := by
  obtain ⟨D, hD, hm⟩ := h.map
  obtain ⟨wd, hr, ho, mt⟩ := hD.drop law101 Tryz.underlying94 (offKey_of x hx) ty
  exact ⟨wd, hr, Pl.of (h.row.turn (mapTurn mt) (fun q => h.ne q.symm)) ho (hm.del x hx), mapTurn mt⟩
theorem own_not_map {w : World} {b : Nat} {es : Array MapEntry} {c : Nat} (ho : w.heap[b]? = some (.map es c)) {e : TypeId} {size : Nat} {v : Value} {n : Nat} {xs : List Value} (h : OwnN w e size v n xs) : ∀ g, v.ownBlock = some g → g ≠ b := fun g hg q => by
  obtain ⟨cc, h2⟩ := h.obj hg
  rw [q, ho] at h2
  cases h2
/-- What the first loop of Settle keeps. -/
def SeI1 (p b n r : Nat) (L : List (Vt × Vt)) (f : Nat × Nat → Bool) (w : World) (W : World) : Prop :=
  ∃ (left : Lit → Bool) (cnt : Nat) (D : DataW Value), W.ranges Tryz.prog 101 heldElem b r n D left cnt ∧ Plm D (midL Tryz.prog L left f) ∧ Row W p #[.pointer (some ⟨p, 0, none⟩), .map (some b)] 96 ∧ Turn (fun k => k = b) w W
set_option maxRecDepth 100000 in
set_option maxHeartbeats 16000000 in
theorem settle13 {w : World} {p b : Nat} {L : List (Vt × Vt)} (hp : Pl w p b L) (SA : Array Value) (c : ByteArray) (age hh : Nat) (pv ov : Value) (hS : StC SA c age hh pv ov) (hh64 : hh < 18446744073709551616) (P : List Pa) (O : List (Nat × Nat)) (hPO : ∀ W, Turn (fun k => k = b) w W → Pas W pv P ∧ Ofs W ov O) (hO64 : ∀ m ∈ O, Off64 m)
    (v : Value) (dl : List (Vt × Vt)) (hd : OwnN w 52 106 v dl.length (evsC dl)) (hdf : ∀ e ∈ dl, e.1.fits ∧ e.2.fits) :
    Calls Tryz.prog 13 #[.pointer (some ⟨p, 0, none⟩), .agg SA, v] w fun e w' => e = .returned (.tuple #[]) ∧ Pl w' p b (strike (strike (L.filter fun e => fndP P age hh (keyE e).1) O) (dl.map keyE)) ∧ Turn (fun k => k = b) w w' := by
  obtain ⟨w0, hw0⟩ : ∃ w0, w.alloc (.cells SA 37) = w0 := ⟨_, rfl⟩
  have T0 : Turn no w w0 := by rw [← hw0]; exact (Turn.refl no w).alloc _
  have RS : Row w0 w.heap.size SA 37 := by rw [← hw0]; exact Row.new w SA 37
  have hp0 := hp.turn_no T0
  have hmd := made14 w0 p hp0.c0
  have cm := hp0.c1
  have hpb := hp0.ne
  have hpr := hp0.row
  obtain ⟨D, hD, hm⟩ := hp0.map
  have hbw : b < w.heap.size := by
    obtain ⟨D, hD, _⟩ := hp.map
    exact hD.lt
  have hpw : p < w.heap.size := hp.row.lt
  have h64 : Shut (∀ e ∈ L, Off64 (keyE e)) := fun e he => keyE64 (hm.fit e he).1
  have iS := hS.size
  have HCO : Shut (∀ W x, Turn (fun k => k = b) w W → Calls Tryz.prog 35 #[.agg SA, .int .u64 (x : Nat)] W (CoRet P age hh x W)) := fun W x t => council22 W SA c age hh x pv ov hS hh64 P (hPO W t).1
  have hs0 := T0.size
  have HM := shut hm
  have HT0 := shut T0
  have HPR := shut hpr
  have HS := shut hS
  have HPO := shut hPO
  have HOB : Shut (OwnN w0 52 106 v dl.length (evsC dl) ∧ ∀ g, v.ownBlock = some g → g ≠ b) := by
    have ho := hd.turn_no T0
    obtain ⟨es, clock, hb, _⟩ := id hD
    exact ⟨ho, own_not_map hb ho⟩
  obtain ⟨da, dc, rfl, -⟩ := hd.form
  obtain ⟨ln, hln⟩ : ∃ n, Hid (L.length = n) := ⟨_, rfl⟩
  rw [show L.length = ln from hln.out] at hD
  clear hd
  clear hp hS hPO T0 hp0 hm
  go_enter Tryz.func13, Tryz.ntmps13
  go_upto_region 1 with fail
  try rw [hw0]
  clear hw0
  go_upto_region 2 with (go_at_call 29; refine hmd.mono ?_; rintro e wA ⟨rfl, hA⟩; have hA := hA.symm; subst hA)
  clear hmd
  go_wp2_with (at_range; refine wpList_range_own _ rfl _ 94 rfl 101 52 law101 Tryz.underlying94 heldElem b ln D rfl hD ?_; intro w1 hrg0 hg0 hs1)
  have T01 : Turn no w0 w1 := (Turn.refl no w0).grown hg0 (fun k q => by cases q)
  have HRG := shut hrg0
  clear hD hrg0 hg0
  obtain ⟨f1, hf1⟩ : ∃ f : Nat × Nat → Bool, (fun x : Nat × Nat => fndP P age hh x.1) = f := ⟨_, rfl⟩
  have hff : ∀ x : Nat × Nat, f1 x = fndP P age hh x.1 := fun x => by rw [← hf1]
  have HFF := shut hff
  clear hff hf1
  go_frame
  go_loopw [6] (fun c6 wr => Shut (SeI1 p b ln w0.heap.size L f1 w0 wr)) (fun _ wr => wr.rangeLeft b w0.heap.size)
  case atStart => exact shut ⟨_, _, D, HRG.out, by rw [mid_start HM.out]; exact HM.out, HPR.out.turn T01 (fun q => q), T01.of_no⟩
  case round =>
    obtain ⟨left, cnt, D1, hrg, hm1, hr1, T⟩ := hrel.out
    have HG := shut hrg
    have HM1 := shut hm1
    have HR1 := shut hr1
    have HTT := shut T
    clear hr1 hm1 T hrel
    go_wp2_with (at_next; refine wpList_next_ranges _ rfl _ rfl 101 law101 heldElem offV id (fun key kl hk => by obtain ⟨x, hx, _⟩ := offKey_inv hk; exact ⟨x, hx⟩) (fun v _ _ => ⟨v, rfl⟩) b w0.heap.size ln D1 left cnt rfl hrg ?_ ?_)
    · intro hc0 hl0
      have HPL : Shut (Pl wr p b (L.filter fun e => f1 (keyE e))) := Pl.of HR1.out HG.out.owns (by rw [← mid_end L left f1 hl0]; exact HM1.out)
      obtain ⟨L1, hL1⟩ : ∃ L1, Hid ((L.filter fun e => f1 (keyE e)) = L1) := ⟨_, rfl⟩
      rw [show (L.filter fun e => f1 (keyE e)) = L1 from hL1.out] at HPL
      have RSr := RS.turn HTT.out (fun q => by
        have q' : w.heap.size = b := q
        omega)
      have c50 := RSr.cell 50 _ HS.out.pu
      have HOF : Shut (∀ W, Turn (fun k => k = b) w0 W → Ofs W ov O) := fun W t => (HPO.out W (HT0.out.of_no.trans t (fun _ _ q => q))).2
      obtain ⟨oa, oc, rfl, -⟩ := HOF.out wr HTT.out
      obtain ⟨no', hno⟩ : ∃ n, Hid (O.length = n) := ⟨_, rfl⟩
      have hole : no' ≤ 9223372036854775807 := by
        obtain ⟨a', c', e', h'⟩ := HOF.out wr HTT.out
        have h1 := h'.le
        have h2 := h'.cap
        rw [show O.length = no' from hno.out] at h1
        simp only [maxLen] at h2
        omega
      have HCE : Shut (∀ (k : Nat) m W, O[k]? = some m → Turn (fun k => k = b) w0 W → ∃ gk off, oa = some ⟨gk, off, none⟩ ∧ W.cell? ⟨gk, off + k * 2, none⟩ = some (.int .u64 m.1) ∧ W.cell? ⟨gk, off + k * 2 + 1, none⟩ = some (.int .u64 m.2)) := fun k m W hk t => by
        obtain ⟨a', c', e', h'⟩ := HOF.out W t
        cases e'
        exact h'.cells k m hk
      rw [show O.length = no' from hno.out] at c50
      clear hrg hl0 hc0 HOF RSr HCO HG HM1 HR1 HS HPO HRG HM
      go_wp2_with fail
      go_loopw [42] (fun cc W => ∃ k : Nat, k ≤ no' ∧ cc = .int .i64 k ∧ Shut (Pl W p b (strike L1 (O.take k)) ∧ Turn (fun k => k = b) w0 W)) (fun cc _ => no' - (intOf cc).toNat)
      case atStart => exact ⟨0, by omega, rfl, shut ⟨by rw [List.take_zero, strike_nil]; exact HPL.out, HTT.out⟩⟩
      case round =>
        obtain ⟨k, hk, rfl, hI⟩ := hrel
        by_cases hlt : k < no'
        · obtain ⟨m, hmk⟩ : ∃ m, O[k]? = some m := ⟨O[k]'(by rw [hno.out]; exact hlt), List.getElem?_eq_getElem _⟩
          obtain ⟨gk, off, ead, c0, c1⟩ := HCE.out k m _ hmk hI.out.2
          have hPl := hI.out.1
          have hTT := hI.out.2
          obtain ⟨w5, hw5⟩ : ∃ w5, wr.alloc (.cells #[.int .u64 m.1, .int .u64 m.2] 101) = w5 := ⟨_, rfl⟩
          have T5n : Turn no wr w5 := by rw [← hw5]; exact (Turn.refl no wr).alloc _
          have R5 : Row w5 wr.heap.size #[.int .u64 m.1, .int .u64 m.2] 101 := by rw [← hw5]; exact Row.new wr _ 101
          obtain ⟨wd, hdr, hpd, hdt⟩ := (hPl.turn_no (T5n.drew)).drop m (hO64 m (List.mem_of_getElem? hmk)) 0
          simp only [offV] at hdr
          have HDR := shut (And.intro hpd ((Turn.refl no w5).drew.of_no.trans hdt (fun _ _ q => q) : Turn (fun k => k = b) w5 wd))
          have hzr : b < wr.heap.size := by have := hTT.size; omega
          have HC5 : Shut (∀ W, Turn (fun k => k = b) w5 W → W.cell? ⟨p, 1, none⟩ = some (.map (some b)) ∧ W.cell? ⟨wr.heap.size, 0, none⟩ = some (.int .u64 m.1) ∧ W.cell? ⟨wr.heap.size, 1, none⟩ = some (.int .u64 m.2)) := fun W t =>
            ⟨((hPl.turn_no T5n).row.turn t (fun q => hpb q.symm)).cell 1 _ rfl, (R5.turn t (fun q => by
              have q' : wr.heap.size = b := q
              omega)).cell 0 _ rfl, (R5.turn t (fun q => by
              have q' : wr.heap.size = b := q
              omega)).cell 1 _ rfl⟩
          have HTD : Shut (Turn (fun k => k = b) w0 w5) := hTT.then_no T5n
          have HMK := shut hmk
          subst ead
          have hlt' : (k : Int) < (no' : Int) := by omega
          clear hpd hdt hPl hTT hI R5 T5n hmk
          go_upto_region 11 with fail
          try rw [hw5]
          clear hw5
          refine wp_region_held_drew (S := fun W => Turn (fun k => k = b) w5 W) (by kernel_rfl) (Turn.refl _ w5).drew (fun hHeld => ?_)
          refine' wpAnyH_take (i := 0) (v := .pointer (some ⟨p, 0, none⟩)) rfl (by kernel_rfl) (by kernel_rfl) (by kernel_rfl) (fun _ _ _ h => h) (Or.inl ⟨by kernel_rfl, fun W hW => ?y41⟩) hHeld ?r41
          · skip
            go_simp
          refine' wpAnyH_take (i := 1) (v := .pointer (some ⟨p, 0, none⟩)) rfl (by kernel_rfl) (by kernel_rfl) (by kernel_rfl) (fun _ _ _ h => h) (Or.inl ⟨by kernel_rfl, fun W hW => ?y42⟩) hHeld ?r42
          · skip
            go_simp
          refine' wpAnyH_take (i := 2) (v := .pointer (some ⟨p, 1, none⟩)) rfl (by kernel_rfl) (by kernel_rfl) (by kernel_rfl) (fun _ _ _ h => h) (Or.inl ⟨by kernel_rfl, fun W hW => ?y43⟩) hHeld ?r43
          · skip
            go_simp
          refine' wpAnyH_take (i := 3) (v := .map (some b)) rfl (by kernel_rfl) (by kernel_rfl) (by kernel_rfl) (fun _ _ _ h => h) (Or.inl ⟨by kernel_rfl, fun W hW => ?y44⟩) hHeld ?r44
          · obtain ⟨q1, _, _⟩ := HC5.out W hW
            go_simp
          refine' wpAnyH_take (i := 4) (v := .agg #[.int .u64 m.1, .int .u64 m.2]) rfl (by kernel_rfl) (by kernel_rfl) (by kernel_rfl) (fun _ _ _ h => h) (Or.inl ⟨by kernel_rfl, fun W hW => ?y45⟩) hHeld ?r45
          · obtain ⟨_, q2, q3⟩ := HC5.out W hW
            go_simp
          simp only [List.getElem_toArray, List.getElem_cons_succ, List.getElem_cons_zero, Act.put, List.setIfInBounds_toArray, List.set_cons_zero, List.set_cons_succ]
          refine wpAnyH_ready (rs := [5]) (by kernel_rfl) (by simp) ?_
          refine AllReadyH.cons rfl (fun K hK => ?_) AllReadyH.nil
          go_simp
          refine hK.out _ _ HDR.out.2 (fun hHeld => ?_)
          clear hK
          refine wpAnyH_done (by kernel_rfl) ?_ _
          go_simp
          go_wp2_with fail
          go_roundw
          case rel =>
            refine ⟨k + 1, by omega, by go_num, shut ⟨?_, HTD.out.trans HDR.out.2 (fun _ _ q => q)⟩⟩
            rw [List.take_add_one, HMK.out]
            simp only [Option.toList_some]
            rw [strike_snoc]
            exact HDR.out.1
          case measure => simp [intOf]; omega
        · have hkn : k = no' := by omega
          subst hkn
          have hlt' : ¬ (k : Int) < (k : Int) := by omega
          have HI2 := shut (And.intro (show Pl wr p b (strike L1 O) by
            have := hI.out.1
            rwa [List.take_of_length_le (by rw [hno.out]; omega)] at this) hI.out.2)
          obtain ⟨nd, hnd⟩ : ∃ n, Hid (dl.length = n) := ⟨_, rfl⟩
          have hndl : nd ≤ 9223372036854775807 := by
            obtain ⟨_, _, _, _, h1, _⟩ := HOB.out.1.form
            rw [show dl.length = nd from hnd.out] at h1
            simpa only [maxLen] using h1
          obtain ⟨L2, hL2⟩ : ∃ L2, Hid (strike L1 O = L2) := ⟨_, rfl⟩
          rw [show strike L1 O = L2 from hL2.out] at HI2
          rw [show dl.length = nd from hnd.out]
          clear hI hlt hk
          go_wp2_with fail
          go_loopw [54] (fun cc W => ∃ k : Nat, k ≤ nd ∧ cc = .int .i64 k ∧ Shut (Pl W p b (strike L2 ((dl.take k).map keyE)) ∧ Turn (fun k => k = b) w0 W)) (fun cc _ => nd - (intOf cc).toNat)
          case atStart => exact ⟨0, by omega, rfl, shut ⟨by rw [List.take_zero, List.map_nil, strike_nil]; exact HI2.out.1, HI2.out.2⟩⟩
          case round =>
            obtain ⟨k3, hk3, rfl, hI⟩ := hrel
            by_cases hlt : k3 < nd
            · obtain ⟨e, hek⟩ : ∃ e, dl[k3]? = some e := ⟨dl[k3]'(by rw [hnd.out]; exact hlt), List.getElem?_eq_getElem _⟩
              have hPl := hI.out.1
              have hTT := hI.out.2
              have hof := HOB.out.1.turn hTT HOB.out.2
              obtain ⟨gd, rfl⟩ : ∃ g, da = some ⟨g, 0, none⟩ := by
                rcases hof.2 with ⟨_, h0⟩ | ⟨g, cap, cur, q, _⟩
                · exact absurd h0 (by rw [show dl.length = nd from hnd.out]; omega)
                · exact ⟨g, (Value.slice.inj q).1⟩
              have hdok : ∀ e ∈ dl, e.1.ok ∧ e.2.ok := fun e he => ⟨(hdf e he).1.1, (hdf e he).2.1⟩
              have ra := evs_range hof hdok hek
              have hef := hdf e (List.mem_of_getElem? hek)
              have hEA := evC_at (b := e.2) hef.1.1
              have f1' : e.1.h = (e.1.h.toNat : Int) := by have := hef.1.2.1; omega
              have f2' : e.1.f = (e.1.f.toNat : Int) := by have := hef.1.2.2.2; omega
              rw [f1', f2'] at hEA
              have hpo := fun W => pairOf25 W (evC e.1 e.2) e.1.h.toNat e.1.f.toNat hEA.1 hEA.2
              have hkey : offV (keyE e) = .agg #[.int .u64 e.1.h.toNat, .int .u64 e.1.f.toNat] := rfl
              obtain ⟨kh, hkh⟩ : ∃ kh, Hid (e.1.h.toNat = kh) := ⟨_, rfl⟩
              obtain ⟨kf, hkf⟩ : ∃ kf, Hid (e.1.f.toNat = kf) := ⟨_, rfl⟩
              rw [show e.1.h.toNat = kh from hkh.out] at hpo hkey
              rw [show e.1.f.toNat = kf from hkf.out] at hpo hkey
              have HKEY := shut hkey
              rw [show evC e.1 e.2 = (evL e).toArray from rfl] at hpo
              have iEL : (Tryz.prog.info? 52).map (·.size) = some (evL e).length := by rw [evL_len (hdok e (List.mem_of_getElem? hek))]; exact size32
              have iX : (Tryz.prog.info? 52).map (·.size) = some (evL e).toArray.size := by simpa using iEL
              have oX : (evL e).toArray.all (·.oneCell') = true := all_oneCell_toArray (evL_one e)
              have z52 := zero52
              obtain ⟨ZE, hZE⟩ : ∃ ZE, Hid (evC zvt zvt = ZE) := ⟨_, rfl⟩
              have sX : ZE.size = (evL e).toArray.size := by
                rw [← hZE.out, evC_size zvt_ok zvt_ok]
                simp [evL_len (hdok e (List.mem_of_getElem? hek))]
              rw [show evC zvt zvt = ZE from hZE.out] at z52
              have hzr : b < wr.heap.size := by have := hTT.size; omega
              have HPT := shut (And.intro hPl hTT)
              have HEK := shut hek
              have h64e := keyE64 hef.1
              have HE64 := shut h64e
              have hlt' : (k3 : Int) < (nd : Int) := by omega
              clear hPl hTT hI hof hek hef hEA f1' f2' hkey h64e
              generalize hEL : evL e = EL at *
              go_upto_region 16 with (first | (guard_target =~ wpList _ _ _ ({ dst := some 57, .. } :: _) _ _; refine wpList_load_midG (by kernel_rfl) 52 (.tmp 56) rfl gd (k3 * 106) rfl EL _ ra Tryz.underlying52 rfl iEL ?_) | (guard_target =~ wpList _ _ _ ({ dst := _, op := Op.store 52 _ _, .. } :: _) _ _; refine wpList_store_anyX rfl rfl 52 (.tmp 12) (.tmp 57) rfl wr.heap.size EL.toArray rfl rfl 52 ZE (Row.new wr ZE 52) iX sX oX ?_; intro w5 R5 t5))
              have T5n : Turn no wr w5 := alloc_set t5
              have hPl := HPT.out.1.turn_no T5n
              have HDD : Shut (∀ W, Turn no w5 W → ∃ wd, (Builtin.delete_ #[94, 101] 0 #[.map (some b), .agg #[.int .u64 kh, .int .u64 kf]]).run Tryz.prog W = .ok (.tuple #[]) wd ∧ Pl wd p b ((strike L2 ((dl.take k3).map keyE)).filter fun x => decide (keyE x ≠ keyE e)) ∧ Turn (fun k => k = b) W wd) := fun W t => by
                have := (hPl.turn_no t).drop (keyE e) HE64.out 0
                rwa [HKEY.out] at this
              have HC5 : Shut (∀ W, Turn (fun k => k = b) w5 W → W.cell? ⟨p, 1, none⟩ = some (.map (some b)) ∧ W.rangeAt wr.heap.size 0 EL) := fun W t =>
                ⟨(hPl.row.turn t (fun q => hpb q.symm)).cell 1 _ rfl, row_range (R5.turn t (fun q => by
                  have q' : wr.heap.size = b := q
                  omega))⟩
              have HTD : Shut (Turn (fun k => k = b) w0 w5) := HPT.out.2.then_no T5n
              clear hPl R5 t5 T5n HPT ra z52 sX oX
              refine wp_region_held_drew (S := fun W => Turn (fun k => k = b) w5 W) (by kernel_rfl) (Turn.refl _ w5).drew (fun hHeld => ?_)
              refine' wpAnyH_take (i := 0) (v := .pointer (some ⟨p, 0, none⟩)) rfl (by kernel_rfl) (by kernel_rfl) (by kernel_rfl) (fun _ _ _ h => h) (Or.inl ⟨by kernel_rfl, fun W hW => ?y81⟩) hHeld ?r81
              · skip
                go_simp
              refine' wpAnyH_take (i := 1) (v := .pointer (some ⟨p, 0, none⟩)) rfl (by kernel_rfl) (by kernel_rfl) (by kernel_rfl) (fun _ _ _ h => h) (Or.inl ⟨by kernel_rfl, fun W hW => ?y82⟩) hHeld ?r82
              · skip
                go_simp
              refine' wpAnyH_take (i := 2) (v := .pointer (some ⟨p, 1, none⟩)) rfl (by kernel_rfl) (by kernel_rfl) (by kernel_rfl) (fun _ _ _ h => h) (Or.inl ⟨by kernel_rfl, fun W hW => ?y83⟩) hHeld ?r83
              · skip
                go_simp
              refine' wpAnyH_take (i := 3) (v := .map (some b)) rfl (by kernel_rfl) (by kernel_rfl) (by kernel_rfl) (fun _ _ _ h => h) (Or.inl ⟨by kernel_rfl, fun W hW => ?y84⟩) hHeld ?r84
              · obtain ⟨q1, _⟩ := HC5.out W hW
                go_simp
              refine' wpAnyH_take (i := 4) (v := .agg EL.toArray) rfl (by kernel_rfl) (by kernel_rfl) (by kernel_rfl) (fun _ _ _ h => h) (yieldsIf_load_mid (by kernel_rfl) 52 (.tmp 12) rfl wr.heap.size 0 (by kernel_rfl) EL _ (fun W h => (HC5.out W h).2) Tryz.underlying52 rfl iEL) hHeld ?r85
              simp only [List.getElem_toArray, List.getElem_cons_succ, List.getElem_cons_zero, Act.put, List.setIfInBounds_toArray, List.set_cons_zero, List.set_cons_succ]
              refine wpAnyH_ready (rs := [5]) (by kernel_rfl) (by simp) ?_
              refine AllReadyH.cons rfl (fun K hK => ?_) AllReadyH.nil
              go_simp
              refine (hpo _).mono ?_
              rintro x w6 ⟨rfl, t6⟩
              have T6 : Turn no w5 w6 := (Turn.refl no w5).drew.then_no t6
              go_wp2_with fail
              refine hK.out _ _ T6.of_no (fun hHeld => ?_)
              clear hK
              refine wpAnyH_ready (rs := [6]) (by kernel_rfl) (by simp) ?_
              refine AllReadyH.cons rfl (fun K hK => ?_) AllReadyH.nil
              obtain ⟨wd, hdr, hpd, hdt⟩ := HDD.out w6 T6
              have HDR := shut (And.intro hpd (T6.of_no.trans hdt (fun _ _ q => q) : Turn (fun k => k = b) w5 wd))
              clear hpd hdt
              go_simp
              refine hK.out _ _ HDR.out.2 (fun hHeld => ?_)
              clear hK
              refine wpAnyH_done (by kernel_rfl) ?_ _
              go_simp
              go_wp2_with fail
              go_roundw
              case rel =>
                refine ⟨k3 + 1, by omega, by go_num, shut ⟨?_, HTD.out.trans HDR.out.2 (fun _ _ q => q)⟩⟩
                rw [List.take_add_one, HEK.out]
                simp only [Option.toList_some, List.map_append, List.map_cons, List.map_nil]
                rw [strike_snoc]
                exact HDR.out.1
              case measure => simp [intOf]; omega
            · have hkn : k3 = nd := by omega
              subst hkn
              have hlt' : ¬ (k3 : Int) < (k3 : Int) := by omega
              have HI3 := shut hI.out
              clear hI hlt
              go_wp2_with fail
              refine ⟨rfl, _, results_none rfl _ _ _, rfl, ?_, HT0.out.of_no.trans HI3.out.2 (fun _ _ q => q)⟩
              have hz := HI3.out.1
              rw [List.take_of_length_le (by rw [hnd.out]; omega), ← hL2.out, ← hL1.out] at hz
              have e1 : (fun e : Vt × Vt => f1 (keyE e)) = fun e => fndP P age hh (keyE e).1 := funext fun e => HFF.out _
              rw [e1] at hz
              exact hz
    · intro x1 x2 c0 kl yd yp w2 cnt2 hkey hlk hv hat hrg2 hlt hg2 hs2 hen
      obtain ⟨x, ex0⟩ : ∃ x : Nat × Nat, (x1, x2) = x := ⟨_, rfl⟩
      have ex1 : x1 = x.1 := by rw [← ex0]
      have ex2 : x2 = x.2 := by rw [← ex0]
      rw [ex0] at hkey hen
      obtain ⟨x', ex, hx⟩ := offKey_inv hkey
      obtain rfl : x = x' := offV_inj ex
      obtain rfl : kl = offKey Tryz.prog x := by
        have := offKey_of x hx
        rw [hkey] at this
        exact Option.some.inj this
      have T2 : Turn (fun k => k = b) w0 w2 := HTT.out.grown hg2 (fun k q hk => by
        cases q
        omega)
      simp only [offV] at hen ⊢
      have HX := shut hx
      have HRG2 := shut hrg2
      have HLT := shut hlt
      obtain ⟨w3, hw3⟩ : ∃ w3, w2.alloc (.cells #[.int .u64 x.1, .int .u64 x.2] 101) = w3 := ⟨_, rfl⟩
      have T3n : Turn no w2 w3 := by rw [← hw3]; exact (Turn.refl no w2).alloc _
      have T3 := T2.then_no T3n
      have R3 : Row w3 w2.heap.size #[.int .u64 x.1, .int .u64 x.2] 101 := by rw [← hw3]; exact Row.new w2 _ 101
      have p0 := R3.cell 0 _ rfl
      have RS3 : Row w3 w.heap.size SA 37 := RS.turn T3 (fun q => by
        have q' : w.heap.size = b := q
        omega)
      have hc35 := HCO.out w3 x.1 (HT0.out.of_no.trans T3 (fun _ _ e => e))
      have HT3 := shut (And.intro T3n T3)
      have hz2 : b < w2.heap.size := by have := T2.size; omega
      clear hs2 hrg hrg2 hg2 hlk hv hat hkey ex ex0 ex1 ex2 hx T2 T3n T3 hlt
      go_upto_region 5 with fail
      try rw [hw3]
      clear hw3 hen
      go_upto_region 6 with (first | (guard_target =~ wpList _ _ _ ({ dst := some 26, .. } :: _) _ _; refine wpList_load_row rfl 37 (.tmp 4) rfl w.heap.size rfl 37 SA _ _ RS3 Tryz.underlying37 rfl iS ?_) | (go_at_call 35; refine hc35.mono ?_; clear hc35; rintro e w4 ⟨vv, ll, bb, rfl, hco, hms, t4⟩; obtain ⟨ma, mc, rfl, -⟩ := id hms))
      have hbb : bb = f1 x := by rw [hco.fnd, HFF.out]
      have HBB := shut hbb
      obtain ⟨w5, hw5⟩ : ∃ w5, w4.alloc (.cells #[.slice ma ll.length mc] 29) = w5 := ⟨_, rfl⟩
      rw [hw5]
      have T5n : Turn no w3 w5 := by rw [← hw5]; exact t4.alloc _
      have HEND : Shut (w5.ranges Tryz.prog 101 heldElem b w0.heap.size ln D1 (fun z => left z && !z.sameKey (offKey Tryz.prog x)) cnt2 ∧ Row w5 p #[.pointer (some ⟨p, 0, none⟩), .map (some b)] 96 ∧ Turn (fun k => k = b) w0 w5) :=
        ⟨ranges_turn HRG2.out (HT3.out.1.then_no T5n) (fun q => q) (fun q => q), HPR.out.turn (HT3.out.2.then_no T5n) (fun q => hpb q.symm), HT3.out.2.then_no T5n⟩
      have R5 := R3.turn T5n (fun q => q)
      clear hco hms t4 hw5 hbb p0 RS3 R3 T5n
      cases bb with
      | true =>
        go_wp2_with fail
        go_roundw
        case rel =>
          obtain ⟨g1, g2, g3⟩ := HEND.out
          exact ⟨_, cnt2, D1, g1, by rw [mid_keep h64.out left f1 HX.out (by rw [← HBB.out])]; exact HM1.out, g2, g3⟩
        case measure =>
          obtain ⟨g1, g2, g3⟩ := HEND.out
          rw [g1.left_eq, HG.out.left_eq]
          exact HLT.out
      | false =>
        obtain ⟨wd, cnt3, hdr, hrg6, hle3, mt⟩ := (ranges_turn HEND.out.1 (Turn.refl no w5).drew (fun q => q) (fun q => q)).drop law101 Tryz.underlying94 (offKey_of x HX.out) 0
        have HDR := shut (And.intro hrg6 (And.intro hle3 ((Turn.refl no w5).drew.of_no.trans (mapTurn mt) (fun _ _ q => q))))
        simp only [offV] at hdr
        have HC5 : Shut (∀ W, Turn (fun k => k = b) w5 W → W.cell? ⟨p, 1, none⟩ = some (.map (some b)) ∧ W.cell? ⟨w2.heap.size, 0, none⟩ = some (.int .u64 x.1) ∧ W.cell? ⟨w2.heap.size, 1, none⟩ = some (.int .u64 x.2)) := fun W t =>
          ⟨(HEND.out.2.1.turn t (fun q => hpb q.symm)).cell 1 _ rfl, (R5.turn t (fun q => by
            have q' : w2.heap.size = b := q
            omega)).cell 0 _ rfl, (R5.turn t (fun q => by
            have q' : w2.heap.size = b := q
            omega)).cell 1 _ rfl⟩
        clear hrg6 hle3 mt R5
        go_upto_region 7 with fail
        refine wp_region_held_drew (S := fun W => Turn (fun k => k = b) w5 W) (by kernel_rfl) (Turn.refl _ w5).drew (fun hHeld => ?_)
        refine' wpAnyH_take (i := 0) (v := .pointer (some ⟨p, 0, none⟩)) rfl (by kernel_rfl) (by kernel_rfl) (by kernel_rfl) (fun _ _ _ h => h) (Or.inl ⟨by kernel_rfl, fun W hW => ?y1⟩) hHeld ?r1
        · skip
          go_simp
        refine' wpAnyH_take (i := 1) (v := .pointer (some ⟨p, 0, none⟩)) rfl (by kernel_rfl) (by kernel_rfl) (by kernel_rfl) (fun _ _ _ h => h) (Or.inl ⟨by kernel_rfl, fun W hW => ?y2⟩) hHeld ?r2
        · skip
          go_simp
        refine' wpAnyH_take (i := 2) (v := .pointer (some ⟨p, 1, none⟩)) rfl (by kernel_rfl) (by kernel_rfl) (by kernel_rfl) (fun _ _ _ h => h) (Or.inl ⟨by kernel_rfl, fun W hW => ?y3⟩) hHeld ?r3
        · skip
          go_simp
        refine' wpAnyH_take (i := 3) (v := .map (some b)) rfl (by kernel_rfl) (by kernel_rfl) (by kernel_rfl) (fun _ _ _ h => h) (Or.inl ⟨by kernel_rfl, fun W hW => ?y4⟩) hHeld ?r4
        · obtain ⟨q1, _, _⟩ := HC5.out W hW
          go_simp
        refine' wpAnyH_take (i := 4) (v := .agg #[.int .u64 x.1, .int .u64 x.2]) rfl (by kernel_rfl) (by kernel_rfl) (by kernel_rfl) (fun _ _ _ h => h) (Or.inl ⟨by kernel_rfl, fun W hW => ?y5⟩) hHeld ?r5
        · obtain ⟨_, q2, q3⟩ := HC5.out W hW
          go_simp
        simp only [List.getElem_toArray, List.getElem_cons_succ, List.getElem_cons_zero, Act.put, List.setIfInBounds_toArray, List.set_cons_zero, List.set_cons_succ]
        refine wpAnyH_ready (rs := [5]) (by kernel_rfl) (by simp) ?_
        refine AllReadyH.cons rfl (fun K hK => ?_) AllReadyH.nil
        go_simp
        refine hK.out _ _ HDR.out.2.2 (fun hHeld => ?_)
        clear hK
        refine wpAnyH_done (by kernel_rfl) ?_ _
        go_simp
        go_wp2_with fail
        go_roundw
        case rel =>
          obtain ⟨g1, g2, g3⟩ := HEND.out
          obtain ⟨h1, h2, h3⟩ := HDR.out
          rw [Maps.strike_twice] at h1
          exact ⟨_, cnt3, _, h1, by rw [mid_drop h64.out left f1 HX.out (by rw [← HBB.out])]; exact HM1.out.del x HX.out, g2.turn h3 (fun q => hpb q.symm), g3.trans h3 (fun _ _ q => q)⟩
        case measure =>
          obtain ⟨h1, h2, h3⟩ := HDR.out
          rw [h1.left_eq, HG.out.left_eq]
          have := HLT.out
          omega
end Go.Proofs.YtgbcdjjnpadddaaGreatDoor

/- Of the laws of the pool: plain; the law's world beside a pool; lists of pairs of votes. -/
namespace Go.Proofs.YtgbcdjjnpadddaaGreatDoor
open Go.RowKit Go.Maps Go.MuLone
set_option linter.unusedVariables false

theorem ver_zero {c : ByteArray} {P : List Pa} {O : List (Nat × Nat)} {age hh : Nat} {R : List Rec} {a b : Vt} (h : verE c P O age hh R a b = 0) : fndP P age hh a.h.toNat = true ∧ (a.h.toNat, a.f.toNat) ∉ O := by
  unfold verE verX at h
  split at h
  case isTrue q => exact absurd h q
  case isFalse =>
    split at h
    case isTrue => cases h
    case isFalse =>
      split at h
      case isTrue => cases h
      case isFalse q =>
        split at h
        case isTrue => cases h
        case isFalse =>
          split at h
          case isTrue => cases h
          case isFalse q2 =>
            refine ⟨?_, fun hm => q2 ?_⟩
            · simp only [fndP, decide_eq_true_eq]
              exact ⟨Decidable.byContradiction fun r => q (.inl r), fun r => q (.inr r)⟩
            · exact List.any_eq_true.2 ⟨_, hm, by simp⟩
theorem seal_mono {c : ByteArray} {R R' : List Rec} {x : Vt} (h : ∀ r ∈ R, r ∈ R') (hs : sealQ c R x = true) : sealQ c R' x = true := by
  unfold sealQ at hs ⊢
  simp only [Bool.and_eq_true, decide_eq_true_eq] at hs ⊢
  exact ⟨hs.1, h _ hs.2.1, hs.2.2⟩
theorem ver_mono {c : ByteArray} {P : List Pa} {O : List (Nat × Nat)} {age hh : Nat} {R R' : List Rec} {a b : Vt} (hR : ∀ r ∈ R, r ∈ R') (h : verE c P O age hh R a b = 0) : verE c P O age hh R' a b = 0 := by
  unfold verE verX at h ⊢
  split at h
  case isTrue q => exact absurd h q
  case isFalse q =>
    rw [if_neg q]
    split at h
    case isTrue => cases h
    case isFalse q =>
      rw [if_neg q]
      split at h
      case isTrue => cases h
      case isFalse q =>
        rw [if_neg q]
        split at h
        case isTrue => cases h
        case isFalse q =>
          rw [if_neg q]
          split at h
          case isTrue => cases h
          case isFalse q =>
            rw [if_neg q]
            split at h
            case isTrue q => rw [if_pos ⟨seal_mono hR q.1, seal_mono hR q.2⟩]
            case isFalse => cases h
theorem pick_take {ok : Vt × Vt → Bool} {L S : List (Vt × Vt)} (hS : S.Perm L) (h : ∀ e ∈ L, ok e = true) : pickL ok S = S.take 16 := by
  unfold pickL
  rw [List.filter_eq_self.2 (fun e he => h e (hS.mem_iff.1 he))]
theorem pick_sub {ok : Vt × Vt → Bool} {L S : List (Vt × Vt)} (hS : S.Perm L) : ∀ e ∈ pickL ok S, e ∈ L := fun e he => hS.mem_iff.1 (List.mem_filter.1 (List.mem_of_mem_take he)).1
theorem pick_rise {ok : Vt × Vt → Bool} {S : List (Vt × Vt)} (h : Rise S) : Rise (pickL ok S) := (List.Pairwise.filter _ h).sublist (List.take_sublist _ _)
theorem rise_keys {S : List (Vt × Vt)} (h : Rise S) : (S.map keyE).Nodup := List.pairwise_map.2 (h.imp fun {a b} q e => by
  rw [e] at q
  simp [offL] at q)
theorem rise_at {S : List (Vt × Vt)} (h : Rise S) {i : Nat} {a b : Vt × Vt} (ha : S[i]? = some a) (hb : S[i + 1]? = some b) : (keyE a).1 < (keyE b).1 ∨ ((keyE a).1 = (keyE b).1 ∧ (keyE a).2 < (keyE b).2) := by
  obtain ⟨h1, e1⟩ := List.getElem?_eq_some_iff.1 ha
  obtain ⟨h2, e2⟩ := List.getElem?_eq_some_iff.1 hb
  have := List.pairwise_iff_getElem.1 h i (i + 1) h1 h2 (by omega)
  rw [e1, e2] at this
  simpa [offL] using this
theorem settle_all {L : List (Vt × Vt)} {O X : List (Nat × Nat)} {P : List Pa} {age hh : Nat} (h : ∀ e ∈ L, fndP P age hh (keyE e).1 = true ∧ keyE e ∉ O) : strike (strike (L.filter fun e => fndP P age hh (keyE e).1) O) X = strike L X := by
  rw [List.filter_eq_self.2 (fun e he => (h e he).1)]
  have : strike L O = L := List.filter_eq_self.2 fun e he => by simpa using (h e he).2
  rw [this]
theorem strike_len : ∀ (l L : List (Vt × Vt)), (L.map keyE).Nodup → (l.map keyE).Nodup → (∀ e ∈ l, e ∈ L) → (strike L (l.map keyE)).length + l.length = L.length := fun l L hL hl hs => by
  have h1 : (L.filter fun e => decide (keyE e ∈ l.map keyE)).Perm l := by
    refine (List.perm_ext_iff_of_nodup ((nodup_of_map hL).filter _) (nodup_of_map hl)).2 fun e => ?_
    rw [List.mem_filter]
    constructor
    · rintro ⟨h1, h2⟩
      obtain ⟨e', he', hk⟩ := List.mem_map.1 (of_decide_eq_true h2)
      rw [key_one hL h1 (hs e' he') hk.symm]
      exact he'
    · intro he
      exact ⟨hs e he, decide_eq_true (List.mem_map_of_mem he)⟩
  have h2 := List.filter_append_perm (fun e : Vt × Vt => decide (keyE e ∈ l.map keyE)) L
  have h3 := h2.length_eq
  rw [List.length_append, h1.length_eq] at h3
  have h4 : (strike L (l.map keyE)) = L.filter fun e => !decide (keyE e ∈ l.map keyE) := by
    unfold strike
    congr 1
    funext e
    simp
  rw [h4]
  omega
/-- A list of pairs of votes, wherever it lies. -/
structure TwV where
  a : Vt
  b : Vt
  r0 : Bool
  r1 : Bool
  sw : Bool
def TwV.cs (t : TwV) : Array Value := twC t.a t.b t.r0 t.r1 t.sw
def Tws (w : World) (v : Value) (L : List TwV) : Prop := ∃ a cap, v = .slice a L.length cap ∧ L.length ≤ 9223372036854775807 ∧ ∀ (j : Nat) t, L[j]? = some t → (t.a.fits ∧ t.b.fits) ∧ ∃ b off, a = some ⟨b, off, none⟩ ∧ w.rangeAt b (off + j * 109) t.cs.toList
theorem range_turn {w w' : World} {b o : Nat} {l : List Value} (h : w.rangeAt b o l) (t : Turn no w w') : w'.rangeAt b o l := fun j u hu => t.keep (h j u hu) (fun q => q)
theorem Tws.turn_no {w w' : World} {v : Value} {L : List TwV} (h : Tws w v L) (t : Turn no w w') : Tws w' v L := by
  obtain ⟨a, cap, e, h0, h⟩ := h
  exact ⟨a, cap, e, h0, fun j x hx => by
    obtain ⟨h1, b, off, e1, h2⟩ := h j x hx
    exact ⟨h1, b, off, e1, range_turn h2 t⟩⟩
/-- The law's world stays where the lock or a map was turned. -/
theorem Wd.keepB {n0 : Nat} {W W' : World} {g p br bt q : Nat} {vm vo ve vr : Value} {V : UInt64 → Value} {E : List UInt64} {R : List Rec} {E1 E2 : List UInt64} {S1 S2 : List Nat} (h : Wd n0 W g p br bt q vm vo ve vr V E R E1 E2 S1 S2) {m : Nat} (B : Bk W' p br bt V E R) (t : Turn (fun k => k = p ∨ k = m) W W') {es : Array MapEntry} {c : Nat} (hm : W.heap[m]? = some (.map es c)) : Wd n0 W' g p br bt q vm vo ve vr V E R E1 E2 S1 S2 := by
  have K : ∀ {e : TypeId}, e ≠ 135 → Kd (fun k => k = p ∨ k = m) W e := fun he k hk c' f ho => by
    rcases hk with rfl | rfl
    · exact h.bk.kd1 he k (.inl rfl) c' f ho
    · rw [hm] at ho
      cases ho
  exact ⟨h.row.off t (K (by decide)), B, h.rf.off t (K (by decide)) (K (by decide)) (K (by decide)), h.om.off t (K (by decide)), h.oo.off t (K (by decide)), h.l1, h.l2, fun k a s e1 e2 => Row.off (h.sg k a s e1 e2) t (K (by decide)), fun k a s e1 e2 => Row.off (h.rs k a s e1 e2) t (K (by decide)), h.lo, h.lv⟩
theorem Wd.keepP {n0 : Nat} {W W' : World} {g p br bt q : Nat} {vm vo ve vr : Value} {V : UInt64 → Value} {E : List UInt64} {R : List Rec} {E1 E2 : List UInt64} {S1 S2 : List Nat} (h : Wd n0 W g p br bt q vm vo ve vr V E R E1 E2 S1 S2) (B : Bk W' p br bt V E R) (t : Turn (fun k => k = p) W W') : Wd n0 W' g p br bt q vm vo ve vr V E R E1 E2 S1 S2 := by
  have K : ∀ {e : TypeId}, e ≠ 135 → Kd (fun k => k = p) W e := fun he k hk c' f ho => h.bk.kd1 he k (.inl hk) c' f ho
  exact ⟨h.row.off t (K (by decide)), B, h.rf.off t (K (by decide)) (K (by decide)) (K (by decide)), h.om.off t (K (by decide)), h.oo.off t (K (by decide)), h.l1, h.l2, fun k a s e1 e2 => Row.off (h.sg k a s e1 e2) t (K (by decide)), fun k a s e1 e2 => Row.off (h.rs k a s e1 e2) t (K (by decide)), h.lo, h.lv⟩
theorem eql44_ne (a : Addr) (w : World) : (binOp .eql 44 (.pointer (some a)) (.pointer none)).run Tryz.prog w = .ok (.bool false) w := by
  have h : ∀ d : Nat, (Op.equalIn (d + 1) 44 (.pointer (some a)) (.pointer none)).run Tryz.prog w = .ok false w := fun d => by
    simp [Op.equalIn, run_underlying Tryz.underlying44]
  simp only [binOp]
  simp [Op.equal, Op.maxDepth, h 9999]
theorem size57 : (Tryz.prog.info? 57).map (·.size) = some 109 := by kernel_rfl
theorem Pl.isMap {w : World} {p b : Nat} {L : List (Vt × Vt)} (h : Pl w p b L) : ∃ es c, w.heap[b]? = some (.map es c) := by
  obtain ⟨D, ⟨es, c, hb, _⟩, _⟩ := h.map
  exact ⟨es, c, hb⟩
end Go.Proofs.YtgbcdjjnpadddaaGreatDoor
