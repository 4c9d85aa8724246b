/- Items; Digest of both. -/
import Derived.Test.YtgjhhmdpepdepaaDoorN1
namespace Go.Proofs.YtgjhhmdpepdepaaDoor
open Go.RowKit
set_option linter.unusedVariables false

theorem info43 : (Tryd.prog.info? 43).map (fun i => (i.zero, i.size, i.bytes)) = some (some (.slice none 0 0), 1, 24) := by kernel_rfl
theorem src_one {P : Program} {tx e' e : TypeId} (hk : P.underlying tx = some (.slice e')) (w : World) (u : Value) (hu : u.oneCell' = true) : Src P 1 tx (.slice (some ⟨w.heap.size, 0, none⟩) 1 1) 1 [u] (w.alloc (.cells #[u] e)) :=
  Src.ofSlice _ hk _ _ _ _ (by simp) (fun j x hx => by
    have := (Row.new w #[u] e).cell j x (by simpa using hx)
    simpa [Addr.add_lit] using this) (by intro x hx; simp at hx; subst hx; exact hu)
set_option maxRecDepth 100000 in
set_option maxHeartbeats 8000000 in
theorem items15 (w : World) (v : Value) (l : List Mb) (h : Ms w v l) (hn : l.length ≤ 64) : Calls Tryd.prog 15 #[.agg #[v]] w fun e w' => ∃ (a : Option Addr) (cap : Nat) (its : Its), e = .returned (.slice a its.length cap) ∧ BlAt w' a cap its ∧ txs its = l.map itB ∧ Turn no w w' := by
  obtain ⟨a, cap, rfl, h⟩ := h
  have HH := shut h
  obtain ⟨n, hln⟩ : ∃ n, Hid (l.length = n) := ⟨_, rfl⟩
  have hln' := hln.out
  rw [hln'] at hn ⊢
  obtain ⟨w0, hw0⟩ : ∃ w0, w.alloc (.cells #[.slice a n cap] 24) = w0 := ⟨_, rfl⟩
  have T0 : Turn no w w0 := by rw [← hw0]; exact (Turn.refl no w).alloc _
  have R0 : Row w0 w.heap.size #[.slice a n cap] 24 := by rw [← hw0]; exact Row.new w _ 24
  have HC : Shut (∀ W, Turn no w0 W → W.cell? ⟨w.heap.size, 0, none⟩ = some (.slice a n cap)) := fun W t => t.keep (R0.cell 0 _ rfl) (fun q => q)
  have HT := shut T0
  clear h hln' T0 R0
  go_enter Tryd.func15, Tryd.ntmps15
  go_upto_region 1 with fail
  try rw [hw0]
  clear hw0
  go_wp2_with fail
  go_loopw [3, 4] (fun vi x wr => ∃ (k : Nat) (us : List Value), k ≤ n ∧ x = .int .i64 k ∧ Shut (Il w0.heap.size wr vi us (l.take k) ∧ us.length = k ∧ Turn no w0 wr)) (fun _ x _ => n - (intOf x).toNat)
  case atStart => exact ⟨0, [], by omega, rfl, ⟨Own.nil _ _, (fun g q => by cases q), (fun j m q => by simp at q)⟩, rfl, Turn.refl _ _⟩
  case round =>
    obtain ⟨k, us, hk, rfl, HK⟩ := hrel
    obtain ⟨ia, il, ic, rfl⟩ := HK.out.1.own.form
    have c0 := HC.out wr HK.out.2.2
    by_cases hlt : k < n
    · have hlt' : (k : Int) < (n : Int) := by omega
      obtain ⟨m, hm⟩ : ∃ m, l[k]? = some m := ⟨l[k]'(by rw [hln.out]; exact hlt), List.getElem?_eq_getElem _⟩
      have hmo := HH.out.ok m (List.mem_of_getElem? hm)
      obtain ⟨b, off, rfl, x0, x1, x2⟩ := (HH.out.turn_no (HT.out.then_no HK.out.2.2)).cells k m hm
      have HM := shut hm
      have HX : Shut (∀ W, Turn no wr W → W.cell? ⟨b, off + k * 3 + 1, none⟩ = some (.int .u64 m.pw) ∧ W.cell? ⟨w.heap.size, 0, none⟩ = some (.slice (some ⟨b, off, none⟩) n cap)) := fun W t => ⟨t.keep x1 (fun q => q), t.keep c0 (fun q => q)⟩
      have k1 := shut (word31 wr (.slice none 0 0) [] m.ad hmo.1 (Own.nil _ _) (by simp))
      have HO2 := shut hmo.2.1
      clear x1 x2 hm hmo
      go_upto_region 6 with (go_at_call 31; refine k1.out.mono ?_; clear k1; rintro e w1 ⟨v1, rfl, O1, t1, n1⟩; obtain ⟨a1, l1, c1, rfl⟩ := O1.form)
      have t1' : Turn no wr w1 := t1.mono (fun i hi q => by cases q)
      obtain ⟨x1, c0⟩ := HX.out w1 t1'
      have k2 := shut (word31 w1 (.slice a1 l1 c1) ([] ++ leB m.ad 8) m.pw HO2.out O1 (by simp [leB_length]))
      have f1 : Shut (∀ g, Value.ownBlock (.slice a1 l1 c1) = some g → wr.heap.size ≤ g) := fun g hg => by
        rcases n1 with e | ⟨g', e, hg'⟩
        · rw [e] at hg; cases hg
        · rw [e] at hg; cases hg; exact hg'
      have HT1 := shut t1'
      clear t1 t1' n1 O1 x0
      go_upto_region 7 with (go_at_call 31; refine k2.out.mono ?_; clear k2; rintro e w2 ⟨v2, rfl, O2, t2, n2⟩; obtain ⟨a2, l2, c2, rfl⟩ := O2.form)
      have T2 : Turn no wr w2 := HT1.out.trans t2 (fun i hi q => by have := f1.out i q; omega)
      have f2 : ∀ g, Value.ownBlock (.slice a2 l2 c2) = some g → wr.heap.size ≤ g := fun g hg => by
        rcases n2 with e | ⟨g', e, hg'⟩
        · rw [e] at hg; exact f1.out g hg
        · rw [e] at hg; cases hg; have := HT1.out.size; omega
      have hB : w0.heap.size ≤ wr.heap.size := HK.out.2.2.size
      have ta := (Turn.refl no w2).alloc (.cells #[.slice a2 l2 c2] 43)
      have S3 := shut (src_one (e := 43) Tryd.underlying42 w2 (.slice a2 l2 c2) rfl)
      have I2 := (HK.out.1.turn_no T2).turn_no ta
      have Oi : Own w2 5 (.slice a2 l2 c2) ((itB m).map bv) := by simpa [itB] using O2
      have Oa := Oi.turn_no ta
      have hs2 := (T2.then_no ta).size
      have HI := shut I2
      have Q1 : Shut ((us.length + 1) * 24 ≤ 140737488355328) := by show _ ≤ _; rw [HK.out.2.1]; omega
      have Q2 : Shut (us.length + 1 ≤ maxLen) := by show _ ≤ _; rw [HK.out.2.1]; simp only [maxLen]; omega
      have TW := shut ((HK.out.2.2.then_no T2).then_no ta)
      have HP : Shut (∀ v3 w3, Own w3 43 v3 (us ++ [.slice a2 l2 c2]) → Grew (w2.alloc (.cells #[.slice a2 l2 c2] 43)) w3 (.slice ia il ic) v3 → Il w0.heap.size w3 v3 (us ++ [.slice a2 l2 c2]) (l.take (k + 1)) ∧ (us ++ [Value.slice a2 l2 c2]).length = k + 1 ∧ Turn no w0 w3) := fun v3 w3 O3 G3 => by
        refine ⟨?_, by simp [HK.out.2.1], ?_⟩
        · rw [List.take_add_one, HM.out]
          exact HI.out.push (m := m) (by rw [HK.out.2.1, List.length_take, hln.out]; omega) (by omega) Oa (fun g hg => by have := f2 g hg; omega) O3 G3
        · have hs0 := TW.out.size
          refine TW.out.trans G3.turn (fun i hi q => ?_)
          have := HI.out.bf i q
          omega
      clear I2 Oi Oa O2 t2 n2 T2 f2 ta c0 x1
      go_wp2_with (at_builtin; refine wpList_append_src rfl (.tmp 28) (.tmp 30) rfl Tryd.underlying42 info43 rfl (.slice ia il ic) us rfl HI.out.own _ 1 [.slice a2 l2 c2] rfl S3.out Q1.out Q2.out ?_; intro v3 w3 O3 G3 _; have HN := shut (HP.out v3 w3 O3 G3); obtain ⟨a3, l3, c3, rfl⟩ := O3.form; clear O3 G3 HP)
      go_roundw
      case rel => exact ⟨k + 1, _, by omega, by go_num, HN⟩
      case measure => simp [intOf]; omega
    · have hlt' : ¬ (k : Int) < (n : Int) := by omega
      have HE : Shut (Il w0.heap.size wr (.slice ia il ic) us l ∧ us.length = l.length) := by
        have : k = n := by omega
        subst this
        have e : l.take k = l := by rw [← hln.out, List.take_length]
        refine ⟨?_, by rw [HK.out.2.1, hln.out]⟩
        have := HK.out.1
        rwa [e] at this
      obtain ⟨xa, xc, its, e1, B1, e2⟩ := HE.out.1.bl HE.out.2 (by rw [hln.out]; exact hn)
      cases e1
      have HB1 := shut B1
      have HE2 := shut e2
      clear B1 e2 HE
      generalize hil : its.length = il at *
      have HIL := shut hil
      clear hil
      go_wp2_with fail
      go_ret
      exact ⟨ia, ic, its, by rw [HIL.out]; rfl, HB1.out, HE2.out, HT.out.then_no HK.out.2.2⟩
def rtT (ts : List (List UInt8)) : List UInt8 := 2 :: (numE ts.length ++ topH ts)
/-- A council's digest. -/
def dgH (l : List Mb) : List UInt8 := if soundE l = 0 then hashOf (rtT (l.map itB)) else z32
theorem dgH_len (l : List Mb) : (dgH l).length = 32 := by
  unfold dgH
  split
  · exact hashOf_len _
  · rfl
theorem sound_small {l : List Mb} (h : soundE l = 0) : l.length ≤ 64 ∧ weighE l = 0 := by
  have hw : weighE l = 0 := by
    by_cases q : weighE l = 0
    · exact q
    · rw [sound_weigh l q] at h
      exact h
  refine ⟨?_, hw⟩
  by_cases q : 64 < l.length
  · rw [weighE, if_neg (by omega), if_pos q] at hw
    cases hw
  · omega
theorem root_its {its : Its} {l : List Mb} (e : txs its = l.map itB) (hn : l.length ≤ 64) : rootE its = 0 ∧ rootH its = hashOf (rtT (l.map itB)) := by
  have hl : its.length = l.length := by rw [← txs_len its, e, List.length_map]
  have ho : okL its := ⟨by omega, fun x hx => by
    have : x.2 ∈ txs its := List.mem_map.2 ⟨x, hx, rfl⟩
    rw [e] at this
    obtain ⟨m, _, q⟩ := List.mem_map.1 this
    rw [← q, itB_len]
    omega⟩
  have hb := (big_of its).2 ho
  refine ⟨if_neg (by rw [hb]; decide), ?_⟩
  unfold rootH
  rw [if_neg (by rw [hb]; decide)]
  unfold rootT rtT
  rw [e, hl, List.length_map]
theorem Row.rng {w : World} {g : Nat} {X : Array Value} {e : TypeId} (h : Row w g X e) : w.rangeAt g 0 X.toList := fun j v hv => by
  rw [Nat.zero_add]
  exact h.cell j v (by simpa using hv)
theorem sizeC : (Tryd.prog.info? 24).map (·.size) = some 1 := by kernel_rfl
set_option maxRecDepth 100000 in
set_option maxHeartbeats 8000000 in
theorem rdigest6 (w : World) (v : Value) (l : List Mb) (h : Ms w v l) (hl : Laid0 w) (h2 : 2 ≤ w.heap.size) : Calls Tryd.prog 6 #[.agg #[v]] w fun e w' => e = .returned (.tuple #[.agg (hb32 (dgH l)), .int .i64 (soundE l)]) ∧ Turn no w w' := by
  have hZ := hb32_size z32_len
  have oZ := hb32_one z32
  have iZ := hb32_info z32_len
  have hzv := zero35v
  have hbd := shut bld35
  obtain ⟨w0, hw0⟩ : ∃ w0, (w.alloc (.cells #[v] 24)).alloc (.cells (hb32 z32) 27) = w0 := ⟨_, rfl⟩
  have T0 : Turn no w w0 := by rw [← hw0]; exact ((Turn.refl no w).alloc _).alloc _
  have RB : Row w0 w.heap.size #[v] 24 := by rw [← hw0]; exact (Row.new w _ 24).alloc _
  have RZ : Row w0 (w.heap.size + 1) (hb32 z32) 27 := by rw [← hw0]; exact Row.newAt _ _ _ _ (by simp)
  have hs := rsound11 w0 v l (h.turn_no T0)
  have HI : Shut (soundE l = 0 → ∀ W, Turn no w W → Calls Tryd.prog 15 #[.agg #[v]] W fun e w' => ∃ (a : Option Addr) (cap : Nat) (its : Its), e = .returned (.slice a its.length cap) ∧ BlAt w' a cap its ∧ txs its = l.map itB ∧ Turn no W w') := fun e W t => items15 W v l (h.turn_no t) (sound_small e).1
  have HR : Shut (soundE l = 0 → ∀ W, Turn no w W → ∀ a cap its, BlAt W a cap its → txs its = l.map itB → Calls Tryd.prog 14 #[.slice a its.length cap] W fun e w' => e = .returned (.tuple #[.agg (hb32 (dgH l)), .int .i64 0]) ∧ Turn no W w') := fun e W t a cap its B q => by
    have := root8 W a cap its B (hl.turn t (fun q => q)) (by have := t.size; omega)
    obtain ⟨r1, r2⟩ := root_its q (sound_small e).1
    rw [r1, r2] at this
    have ed : dgH l = hashOf (rtT (l.map itB)) := if_pos e
    rwa [ed]
  have HD : Shut (¬ soundE l = 0 → dgH l = z32) := fun e => if_neg e
  have ld := dgH_len l
  have sD := hb32_size ld
  have oD := hb32_one (dgH l)
  have iD := hb32_info ld
  have HDz : Shut (¬ soundE l = 0 → hb32 (dgH l) = hb32 z32) := fun e => by rw [HD.out e]
  clear h hl HD ld
  have rB := Row.rng RB
  have HTB : Shut (∀ W, Turn no w0 W → Row W (w.heap.size + 1) (hb32 z32) 27 ∧ W.rangeAt w.heap.size 0 [v]) := fun W t => ⟨Row.turn RZ t (fun q => q), Row.rng (Row.turn RB t (fun q => q))⟩
  have rB : w0.rangeAt w.heap.size 0 [v] := (HTB.out w0 (Turn.refl no w0)).2
  generalize hb32 (dgH l) = D at *
  generalize hb32 z32 = Z at *
  generalize soundE l = se at *
  clear RB
  by_cases hse : se = 0
  · have hi1 := HI.out hse
    have hr1 := HR.out hse
    have HI1 := shut hi1
    have HR1 := shut hr1
    clear hi1 hr1 HI HR HDz
    subst hse
    go_enter Tryd.func6, Tryd.ntmps6
    go_upto_region 1 with fail
    try rw [hw0]
    clear hw0 hzv
    go_upto_region 4 with (first | (guard_target =~ wpList _ _ _ ({ dst := _, op := Op.load 24 _, .. } :: _) _ _; refine wpList_load_midG (by kernel_rfl) 24 (.tmp 1) rfl w.heap.size 0 rfl [v] _ rB Tryd.underlying24 rfl sizeC ?_) | (go_at_call 13; refine hs.mono ?_; clear hs; rintro e w1 ⟨rfl, t1⟩))
    obtain ⟨RZ1, rB1⟩ := HTB.out w1 t1
    have T1 := T0.then_no t1
    have k15 := HI1.out w1 T1
    clear rB RZ
    go_wp2_with (first | (guard_target =~ wpList _ _ _ ({ dst := _, op := Op.load 24 _, .. } :: _) _ _; refine wpList_load_midG (by kernel_rfl) 24 (.tmp 1) rfl w.heap.size 0 rfl [v] _ rB1 Tryd.underlying24 rfl sizeC ?_) | (go_at_call 15; refine k15.mono ?_; clear k15; rintro e w2 ⟨a2, c2, its, rfl, B2, e2, t2⟩; have k14 := HR1.out w2 (T1.then_no t2) a2 c2 its B2 e2; clear B2 e2) | (go_at_call 14; refine k14.mono ?_; clear k14; rintro e w3 ⟨rfl, t3⟩; obtain ⟨RZ3, _⟩ := HTB.out w3 ((t1.then_no t2).then_no t3)) | (guard_target =~ wpList _ _ _ ({ dst := _, op := Op.store 27 _ _, .. } :: _) _ _; refine wpList_store_row rfl 27 (.tmp 2) (.tmp 14) rfl (w.heap.size + 1) D rfl rfl 27 Z RZ3 iD (by rw [hZ, sD]) oD ?_))
    refine bodyPost_ret (v := .tuple #[.agg D, .int .i64 0]) ?_ rfl ⟨rfl, ((T1.then_no t2).then_no t3).setRow _ _ (fun q => by omega)⟩
    exact results_cell_row_tmp (P := Tryd.prog) Tryd.results6 _ _ (w.heap.size + 1) 27 D (0, 0) _ rfl (setRow_heap _ _ _ _ _ _ RZ3) Tryd.underlying27 rfl iD
  · have hd := HDz.out hse
    subst hd
    have n1 : (se != 0) = true := by simpa using hse
    clear HI HR HDz hse
    go_enter Tryd.func6, Tryd.ntmps6
    go_upto_region 1 with fail
    try rw [hw0]
    clear hw0 hzv
    go_wp2_with (first | (guard_target =~ wpList _ _ _ ({ dst := _, op := Op.load 24 _, .. } :: _) _ _; refine wpList_load_midG (by kernel_rfl) 24 (.tmp 1) rfl w.heap.size 0 rfl [v] _ rB Tryd.underlying24 rfl sizeC ?_) | (go_at_call 13; refine hs.mono ?_; clear hs; rintro e w1 ⟨rfl, t1⟩; obtain ⟨RZ1, _⟩ := HTB.out w1 t1) | (guard_target =~ wpList _ _ _ ({ dst := _, op := Op.build 27 _, .. } :: _) _ _; refine wpList_buildG (by kernel_rfl) 27 rfl _ (hbd.out _) ?_) | (guard_target =~ wpList _ _ _ ({ dst := _, op := Op.store 27 _ _, .. } :: _) _ _; refine wpList_store_row rfl 27 (.tmp 2) (.tmp 9) rfl (w.heap.size + 1) _ rfl rfl 27 _ RZ1 iZ rfl oZ ?_))
    refine bodyPost_ret (v := .tuple #[.agg _, .int .i64 se]) ?_ rfl ⟨rfl, (T0.then_no t1).setRow _ _ (fun q => by omega)⟩
    exact results_cell_row_tmp (P := Tryd.prog) Tryd.results6 _ _ (w.heap.size + 1) 27 _ (0, 0) _ rfl (setRow_heap _ _ _ _ _ _ RZ1) Tryd.underlying27 rfl iZ
end Go.Proofs.YtgjhhmdpepdepaaDoor
