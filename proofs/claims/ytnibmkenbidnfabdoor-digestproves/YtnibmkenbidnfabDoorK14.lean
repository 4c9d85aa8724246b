/- The walk of DigestProves. -/
import Derived.Test.YtnibmkenbidnfabDoorK13
import Derived.Test.YtnibmkenbidnfabDoorK11
import Derived.Test.YtnibmkenbidnfabDoorK10
namespace Go.Proofs.YtnibmkenbidnfabDoor
open Go.RowKit
set_option linter.unusedVariables false

theorem wayH_all (n : Nat) : ∀ (l : List (List UInt8)) (a : Nat), l.length = n → 1 ≤ n → a < n → ∀ m ∈ wayH l a, m.length = 32 := by
  induction n using Nat.strongRecOn with
  | _ n ih =>
    intro l a hln h1 ha
    by_cases h : n = 1
    · subst h
      rw [wayH_one l a hln]
      simp
    · have hk1 := splitN_lt n (by omega)
      have hk2 := splitN_pos n
      by_cases hak : a < splitN n
      · have e := wayH_left l a (by omega) (by rw [hln]; exact hak)
        rw [e, hln]
        intro m hm
        rcases List.mem_append.1 hm with q | q
        · exact ih (splitN n) hk1 (l.take (splitN n)) a (by simp; omega) hk2 hak m q
        · simp at q; rw [q]; exact topH_len _
      · have e := wayH_right l a (by omega) (by rw [hln]; exact hak)
        rw [e, hln]
        intro m hm
        rcases List.mem_append.1 hm with q | q
        · exact ih (n - splitN n) (by omega) (l.drop (splitN n)) (a - splitN n) (by simp; omega) (by omega) (by omega) m q
        · simp at q; rw [q]; exact topH_len _
theorem prE_zero {l : Its} {i : Int} (h : prE l i = 0) : okL l ∧ ∃ k : Nat, i = k ∧ k < l.length := by
  unfold prE at h
  split at h
  · cases h
  · rename_i q
    split at h
    · cases h
    · rename_i q2
      refine ⟨(big_of l).1 (by simpa using q), i.toNat, ?_, ?_⟩ <;> omega
theorem prA_all (l : Its) (i : Int) : ∀ m ∈ prA l i, m.length = 32 := by
  unfold prA
  split
  · rename_i h
    obtain ⟨_, k, rfl, hk⟩ := prE_zero h
    exact wayH_all l.length (txs l) _ (txs_len l) (by omega) (by simpa using hk)
  · simp
/-- A proof that was made is let. -/
theorem verE_made {l : Its} {k : Nat} (h : prE l k = 0) : verE (rootH l) (prT l k) (prI l k) (prA l k) ((txs l).getD k []) = 0 := by
  obtain ⟨ho, k', hk', hk⟩ := prE_zero h
  have hkk : k' = k := by omega
  subst hkk
  have e1 : prT l k' = l.length := if_pos h
  have e2 : prI l k' = k' := if_pos h
  have e3 : prA l k' = wayH (txs l) k' := by unfold prA; rw [if_pos h]; rfl
  obtain ⟨u1, u2⟩ := up_way l.length (txs l) k' (txs_len l) (by omega) hk
  have hb := (big_of l).2 ho
  have er : rootH l = hashOf (rootT l) := if_neg (by rw [hb]; decide)
  have hx : ((txs l).getD k' []).length ≤ 1048576 := by
    rw [List.getD_eq_getElem?_getD, List.getElem?_eq_getElem (by rw [txs_len]; exact hk)]
    simp only [Option.getD_some, txs, List.getElem_map]
    exact ho.2 _ (List.getElem_mem _)
  have hp : pathE l.length k' (wayH (txs l) k').length ((txs l).getD k' []).length = 0 := by
    unfold pathE
    rw [if_neg (by omega), if_pos]
    rw [fitsB_in l.length k' _ (by omega) ho.1 hk, u2]
    simp
  rw [e1, e2, e3]
  unfold verE
  rw [if_neg (by rw [hp]; simp)]
  unfold pathH
  rw [if_pos hp, if_pos]
  rw [er]
  unfold rootT
  simp only [Int.toNat_natCast]
  rw [u1]
theorem like_txs {l m : Its} (h : txs m = txs l) : m.length = l.length ∧ rootH m = rootH l ∧ rootE m = rootE l ∧ ∀ i, prE m i = prE l i ∧ prA m i = prA l i ∧ prT m i = prT l i ∧ prI m i = prI l i := by
  have e : m.length = l.length := by rw [← txs_len m, h, txs_len]
  have er : rootH m = rootH l := by unfold rootH rootT; rw [h, e]
  have ee : rootE m = rootE l := by unfold rootE; rw [h]
  have ep : ∀ i, prE m i = prE l i := fun i => by unfold prE; rw [h, e]
  refine ⟨e, er, ee, fun i => ⟨ep i, ?_, ?_, ?_⟩⟩
  · unfold prA; rw [ep, h]
  · unfold prT; rw [ep, e]
  · unfold prI; rw [ep]
theorem Pv.like {w w' : World} {l m : Its} {i : Int} {e : Ending} (h : txs m = txs l) (p : Pv w m i e w') : Pv w l i e w' := by
  obtain ⟨_, _, _, q⟩ := like_txs h
  obtain ⟨q1, q2, q3, q4⟩ := q i
  unfold Pv at p ⊢
  rwa [q1, q2, q3, q4] at p
/-- The second row as a list of items. -/
theorem Ro.bl' {B : Nat} {w : World} {vf : Value} {g n cap : Nat} {l : Its} {fs ls : List Value} {m1 m2 : Value} (R : Ro B w vf (.slice (some ⟨g, 0, none⟩) n cap) l fs (ls ++ [m1, m2])) (hls : ls.length = l.length) (hle : l.length ≤ cap) (hc : cap ≤ maxLen) (hlt : l.length < 4611686018427387904) : ∃ m : Its, txs m = txs l ∧ BlAt w (some ⟨g, 0, none⟩) cap m := by
  have hz : (ls.zip (txs l)).length = l.length := by rw [List.length_zip, txs_len, hls]; omega
  refine ⟨ls.zip (txs l), ?_, by rw [hz]; exact hle, hc, by rw [hz]; exact hlt, .inr ⟨g, 0, rfl, fun j x hx => ?_⟩⟩
  · unfold txs
    exact List.map_snd_zip (by rw [List.length_map, hls]; omega)
  · have hj : j < l.length := by have := (List.getElem?_eq_some_iff.1 hx).1; omega
    obtain ⟨y, hy⟩ : ∃ y, l[j]? = some y := ⟨l[j], List.getElem?_eq_getElem hj⟩
    obtain ⟨gg, cp, f1, f2, O, _⟩ := R.tx j y hy
    rw [List.getElem?_append_left (by omega)] at f2
    have hx2 : x = (.slice (some ⟨gg, 0, none⟩) y.2.length cp, y.2) := by
      rw [List.getElem?_zip_eq_some] at hx
      obtain ⟨q1, q2⟩ := hx
      rw [f2] at q1
      unfold txs at q2
      rw [List.getElem?_map, hy] at q2
      simp at q1 q2
      exact Prod.ext q1.symm q2.symm
    subst hx2
    refine ⟨?_, Bs.front O.bs⟩
    have := R.ol.cell j _ (at_app f2)
    simpa using this
set_option maxRecDepth 100000 in
set_option maxHeartbeats 16000000 in
theorem proves5 (w : World) (l : Its) (a : Option Addr) (ca : Nat) (i : Int) (hA : BlAt w a ca l) (hsz : ∀ x ∈ l, x.2.length + 2 ≤ 140737488355328) (hn : (l.length + 2) * 24 ≤ 140737488355328) (hl0 : Laid0 w) (hl1 : Laid1 w) :
    Calls Tryd.prog 5 #[.slice a l.length ca, .int .i64 i] w fun e w' => e = .returned (.bool true) ∧ Turn no w w' := by
  have h2 : 2 ≤ w.heap.size := World.block_lt_of_cell? w _ (hl1 0 (by omega))
  have hal := alive_any w hl1 h2
  have LT : Shut (∀ W, Turn no w W → Calls Tryd.prog 13 #[.slice a l.length ca] W (Lt W l)) := fun W T => list13 W l a ca (hA.turn_no T) hsz hn
  have R7 : Shut (∀ W b c m, Turn no w W → txs m = txs l → BlAt W b c m → Calls Tryd.prog 7 #[.slice b l.length c] W fun e w' => e = .returned (.tuple #[.agg (hb32 (rootH l)), .int .i64 (rootE l)]) ∧ Turn no W w') := fun W b c m T e h => by
    have := root7 W b c m h (hl1.turn T (fun q => q)) (by have := T.size; omega)
    obtain ⟨e1, e2, e3, _⟩ := like_txs e
    rwa [e1, e2, e3] at this
  have P14 : Shut (∀ W b c m, Turn no w W → txs m = txs l → BlAt W b c m → Calls Tryd.prog 14 #[.slice b l.length c, .int .i64 i] W (Pv W l i)) := fun W b c m T e h => by
    have := prove14 W b c m i h (hl1.turn T (fun q => q)) (by have := T.size; omega)
    rw [(like_txs e).1] at this
    exact this.mono (fun _ _ q => q.like e)
  have R8 : Shut (∀ W, Turn no w W → Calls Tryd.prog 8 #[.slice a l.length ca] W fun e w' => e = .returned (.tuple #[.agg (hb32 (rootH l)), .int .i64 (rootE l)]) ∧ Turn no W w') := fun W T => root8 W a ca l (hA.turn_no T) (hl0.turn T (fun q => q)) (by have := T.size; omega)
  have P15 : Shut (∀ W, Turn no w W → Calls Tryd.prog 15 #[.slice a l.length ca, .int .i64 i] W (Pv W l i)) := fun W T => prove15 W a ca l i (hA.turn_no T) (hl0.turn T (fun q => q)) (by have := T.size; omega)
  have HB : Shut (∀ {B : Nat} {w : World} {vf : Value} {g n cap : Nat} {fs ls : List Value} {m1 m2 : Value}, Ro B w vf (.slice (some ⟨g, 0, none⟩) n cap) l fs (ls ++ [m1, m2]) → ls.length = l.length → l.length ≤ cap → cap ≤ maxLen → ∃ m : Its, txs m = txs l ∧ BlAt w (some ⟨g, 0, none⟩) cap m) := fun R h1 h2 h3 => R.bl' h1 h2 h3 hA.lt
  have KL : Shut (∀ W, Turn no w W → ∀ (B : Nat) (vf vl : Value) (fs ls : List Value) (m1 m2 : Value), Ro B W vf vl l fs (ls ++ [m1, m2]) → fs.length = l.length → ls.length = l.length → Bs W m1 [109, 97, 114, 107] → Bs W m2 [109, 97, 114, 107] → Calls Tryd.prog 17 #[vf, vl, .slice a l.length ca] W fun e w' => e = .returned (.bool true) ∧ Turn no W w') := fun W T B vf vl fs ls m1 m2 R q1 q2 q3 q4 => keptL17 W l a ca (hA.turn_no T) hsz hn B vf vl fs ls m1 m2 R q1 q2 q3 q4
  have HV : Shut (prE l i = 0 → ∃ (k : Nat) (b o : Nat) (x : Value × List UInt8), i = k ∧ k < l.length ∧ a = some ⟨b, o, none⟩ ∧ (∀ W, Turn no w W → W.cell? ⟨b, o + k, none⟩ = some x.1 ∧ Bs W x.1 x.2) ∧ verE (rootH l) (prT l i) (prI l i) (prA l i) x.2 = 0) := fun h => by
    obtain ⟨_, k, hik, hk⟩ := prE_zero h
    have hv : prE l k = 0 := by rw [← hik]; exact h
    have hv := verE_made hv
    obtain ⟨b, o, ea, hP⟩ := hA.pcs.resolve_left (by rintro rfl; simp at hk)
    refine ⟨k, b, o, l[k], hik, hk, ea, fun W T => (hP.turn_no T) k _ (List.getElem?_eq_getElem hk), ?_⟩
    rw [hik]
    have e : (txs l).getD k [] = (l[k]).2 := by
      rw [List.getD_eq_getElem?_getD, List.getElem?_eq_getElem (by rw [txs_len]; exact hk)]
      simp [txs]
    rw [e] at hv
    exact hv
  have SM : Shut (∀ W b c b' c', HsAt W b c (prA l i) → HsAt W b' c' (prA l i) → Calls Tryd.prog 16 #[.agg #[.int .i64 (prT l i), .int .i64 (prI l i), .slice b (prA l i).length c], .agg #[.int .i64 (prT l i), .int .i64 (prI l i), .slice b' (prA l i).length c']] W fun e w' => e = .returned (.bool true) ∧ Turn no W w') := fun W b c b' c' q q' => same24 W _ _ _ b c b' c' q q'
  have hll := rootH_len l
  have VF : Shut (∀ W, Turn no w W → ∀ b c, HsAt W b c (prA l i) → ∀ u y, Bs W u y → Calls Tryd.prog 10 #[.agg (hb32 (rootH l)), .agg #[.int .i64 (prT l i), .int .i64 (prI l i), .slice b (prA l i).length c], u] W fun e w' => e = .returned (.int .i64 (verE (rootH l) (prT l i) (prI l i) (prA l i) y)) ∧ Turn no W w') := fun W T b c q u y hb => verify26 W _ hll _ _ _ b c q u y hb (hl1.turn T (fun q => q)) (by have := T.size; omega)
  have HH : Shut (∀ W v, OwnN W 25 32 v (prA l i).length (hsF (prA l i)) → ∃ b c, v = .slice b (prA l i).length c ∧ HsAt W b c (prA l i)) := fun W v q => OwnN.hsAt q rfl (prA_all l i)
  have HE : Shut (∀ W, (Op.equalIn 10000 25 (.agg (hb32 (rootH l))) (.agg (hb32 (rootH l)))).run Tryd.prog W = .ok true W) := fun W => by
    rw [show hb32 (rootH l) = ((rootH l).map bv).toArray from rfl, eqIn35 W _ _ hll hll]
    simp
  have HP0 : Shut (∀ W W' e, Pv W l i e W' → ∃ v, e = .returned (.tuple #[.agg #[.int .i64 (prT l i), .int .i64 (prI l i), v], .int .i64 (prE l i)]) ∧ OwnN W' 25 32 v (prA l i).length (hsF (prA l i)) ∧ Turn no W W') := fun W W' e ⟨v, q1, q2, _, q4⟩ => ⟨v, q1, q2, q4⟩
  have s1 := hb32_size hll
  have o1 := hb32_one (rootH l)
  have i1 := hb32_info hll
  have hZ := hb32_size z32_len
  have hzv := zero35v
  have HLN : Shut (l.length < 4611686018427387904) := hA.lt
  have HQ : Shut (∀ W W' e, Pv W l i e W' → Pv W l i e W') := fun _ _ _ h => h
  clear hA hsz hl0 hl1 hll
  generalize prA l i = A at *
  generalize prT l i = pt at *
  generalize prI l i = pi at *
  generalize prE l i = pe at *
  generalize hb32 (rootH l) = HL at *
  generalize rootE l = el at *
  generalize hb32 z32 = Z at *
  generalize A.length = L at *
  generalize hln : l.length = n at *
  have HLn := shut hln
  clear hln HQ
  have e1 : (el != el) = false := by simp
  have e2 : (pe != pe) = false := by simp
  go_enter Tryd.func5, Tryd.ntmps5
  go_upto_region 4 with (go_at_call 6; refine hal.mono ?_; clear hal; rintro e w1 ⟨rfl, t1⟩)
  have lt := LT.out w1 t1
  go_upto_region 5 with (go_at_call 13; refine lt.mono ?_; clear lt; intro e w2 h2'; obtain ⟨vf, vl, fs, ls, m1, m2, rfl, R2, q1, q2, M1, M2, t2⟩ := h2')
  rw [HLn.out] at q1 q2
  have hlen : (ls ++ [m1, m2]).length = n + 2 := by simp [q2]
  rcases R2.ol.shape with ⟨_, q⟩ | ⟨gl, cl, cur, hv, _, hle, hcm, _⟩
  · rw [q] at hlen; simp at hlen
  rw [hlen] at hv hle
  subst hv
  obtain ⟨fa, fn, fc, rfl⟩ := R2.of.form
  obtain ⟨mm, hm1, hm2⟩ := HB.out R2 q2 (by omega) hcm
  have T2 := t1.then_no t2
  have HK : Shut (∀ W, Turn no w2 W → Calls Tryd.prog 17 #[.slice fa fn fc, .slice (some ⟨gl, 0, none⟩) (n + 2) cl, .slice a n ca] W fun e w' => e = .returned (.bool true) ∧ Turn no W w') := fun W T => KL.out W (T2.then_no T) _ _ _ fs ls m1 m2 (R2.turn_no T) q1 q2 (M1.turn_no T) (M2.turn_no T)
  have r7 := R7.out w2 _ _ mm T2 hm1 hm2
  have HM : Shut (txs mm = txs l ∧ BlAt w2 (some ⟨gl, 0, none⟩) cl mm) := ⟨hm1, hm2⟩
  have hnc : n ≤ cl := by omega
  have hnc' : (n : Int) ≤ (cl : Int) := by omega
  clear R2 q1 q2 M1 M2 hlen hm1 hm2 hle hcm KL HB LT R7 t1 t2
  generalize hk2 : n + 2 = n2 at *
  clear hk2
  go_upto_region 6 with (first | (go_at_call 7; refine r7.mono ?_; clear r7; rintro e w3 ⟨rfl, t3⟩) | (guard_target =~ wpList _ _ _ ({ dst := _, op := Op.store 25 _ _, .. } :: _) _ _; refine wpList_store_anyN rfl rfl 25 (.tmp 8) (.tmp 31) rfl _ HL rfl rfl 25 Z (Row.new _ Z 25) i1 (by rw [hZ, s1]) o1 ?_; intro w4 RL t4))
  have T34 : Turn (fun q => q = w3.heap.size) w3 w4 := ((Turn.refl no w3).alloc _).of_no.trans t4 (fun _ _ e => e)
  have t24 := t3.trans T34 (fun i hi e => by have := t3.size; omega)
  have T4 := T2.then_no t24
  have p14 := P14.out w4 _ _ mm T4 HM.out.1 (HM.out.2.turn_no t24)
  clear T34 t3 t4 P14
  generalize w3.heap.size = g8 at *
  go_upto_region 7 with (first | (go_at_call 14; refine p14.mono ?_; clear p14; intro e w5 h5; obtain ⟨v5, rfl, O5, t5⟩ := HP0.out _ _ _ h5; clear h5; obtain ⟨b5, c5, rfl, A5⟩ := HH.out _ _ O5; have hl5 : (#[Value.int .i64 pt, .int .i64 pi, .slice b5 L c5].all (·.oneCell')) = true := by simp [Value.oneCell']) | (guard_target =~ wpList _ _ _ ({ dst := _, op := Op.store 34 _ _, .. } :: _) _ _; refine wpList_store_anyN rfl rfl 34 (.tmp 10) (.tmp 40) rfl _ #[.int .i64 pt, .int .i64 pi, .slice b5 L c5] rfl rfl 34 #[.int .i64 0, .int .i64 0, .slice none 0 0] (Row.new _ _ 34) size34 rfl hl5 ?_; intro w6 RP t6))
  have T56 : Turn (fun q => q = w5.heap.size) w5 w6 := ((Turn.refl no w5).alloc _).of_no.trans t6 (fun _ _ e => e)
  have A6 := A5.turn T56 (fun x hx q => by have := OwnN.lt O5 (g := x.block) (by rw [hx]; rfl); omega)
  have t46 := t5.trans T56 (fun i hi e => by have := t5.size; omega)
  have RL6 := Row.turn RL t46 (fun q => q)
  have t26 := t24.then_no t46
  have T6 := T4.then_no t46
  have r8 := R8.out w6 T6
  clear T56 t5 t6 A5 O5 RL t24 T4 t46 R8
  generalize w5.heap.size = g10 at *
  go_upto_region 8 with (first | (go_at_call 8; refine r8.mono ?_; clear r8; rintro e w7 ⟨rfl, t7⟩) | (guard_target =~ wpList _ _ _ ({ dst := _, op := Op.store 25 _ _, .. } :: _) _ _; refine wpList_store_anyN rfl rfl 25 (.tmp 12) (.tmp 45) rfl _ HL rfl rfl 25 Z (Row.new _ Z 25) i1 (by rw [hZ, s1]) o1 ?_; intro w8 RM t8))
  have T78 : Turn (fun q => q = w7.heap.size) w7 w8 := ((Turn.refl no w7).alloc _).of_no.trans t8 (fun _ _ e => e)
  have t68 := t7.trans T78 (fun i hi e => by have := t7.size; omega)
  have RL8 := Row.turn RL6 t68 (fun q => q)
  have RP8 := Row.turn RP t68 (fun q => q)
  have A8 := A6.turn_no t68
  have t28 := t26.then_no t68
  have T8 := T6.then_no t68
  have p15 := P15.out w8 T8
  clear T78 t7 t8 A6 RL6 RP t26 T6 t68 P15
  generalize w7.heap.size = g12 at *
  go_upto_region 9 with (first | (go_at_call 15; refine p15.mono ?_; clear p15; intro e w9 h9; obtain ⟨v9, rfl, O9, t9⟩ := HP0.out _ _ _ h9; clear h9; obtain ⟨b9, c9, rfl, A9⟩ := HH.out _ _ O9; have hl9 : (#[Value.int .i64 pt, .int .i64 pi, .slice b9 L c9].all (·.oneCell')) = true := by simp [Value.oneCell']) | (guard_target =~ wpList _ _ _ ({ dst := _, op := Op.store 34 _ _, .. } :: _) _ _; refine wpList_store_anyN rfl rfl 34 (.tmp 14) (.tmp 51) rfl _ #[.int .i64 pt, .int .i64 pi, .slice b9 L c9] rfl rfl 34 #[.int .i64 0, .int .i64 0, .slice none 0 0] (Row.new _ _ 34) size34 rfl hl9 ?_; intro w10 RQ t10))
  have T910 : Turn (fun q => q = w9.heap.size) w9 w10 := ((Turn.refl no w9).alloc _).of_no.trans t10 (fun _ _ e => e)
  have A10 := A9.turn T910 (fun x hx q => by have := OwnN.lt O9 (g := x.block) (by rw [hx]; rfl); omega)
  have t810 := t9.trans T910 (fun i hi e => by have := t9.size; omega)
  have RL10 := Row.turn RL8 t810 (fun q => q)
  have RM10 := Row.turn RM t810 (fun q => q)
  have RP10 := Row.turn RP8 t810 (fun q => q)
  have B10 := A8.turn_no t810
  have t210 := t28.then_no t810
  have T10 := T8.then_no t810
  clear T910 t9 t10 A9 O9 RL8 RM RP8 A8 t28 T8 t810 HP0 HH hl5 hl9 HM hzv
  generalize w9.heap.size = g14 at *
  have rL := Row.rng RL10
  have rM := Row.rng RM10
  have rP := Row.rng RP10
  have rQ := Row.rng RQ
  have jL : (Tryd.prog.info? 25).map (·.size) = some HL.toList.length := by rw [Array.length_toList]; exact i1
  have he := HE.out
  have sm := SM.out w10 _ _ _ _ B10 A10
  go_upto_region 11 with (first | (guard_target =~ wpList _ _ _ ({ dst := some 53, op := Op.load 25 _, .. } :: _) _ _; refine wpList_load_midG (by kernel_rfl) 25 (.tmp 8) rfl g8 0 rfl HL.toList _ rL Tryd.underlying25 rfl jL ?_) | (guard_target =~ wpList _ _ _ ({ dst := some 54, op := Op.load 25 _, .. } :: _) _ _; refine wpList_load_midG (by kernel_rfl) 25 (.tmp 12) rfl g12 0 rfl HL.toList _ rM Tryd.underlying25 rfl jL ?_) | (guard_target =~ wpList _ _ _ ({ dst := some 67, op := Op.load 34 _, .. } :: _) _ _; refine wpList_load_midG (by kernel_rfl) 34 (.tmp 10) rfl g10 0 rfl _ _ rP Tryd.underlying34 rfl size34 ?_) | (guard_target =~ wpList _ _ _ ({ dst := some 68, op := Op.load 34 _, .. } :: _) _ _; refine wpList_load_midG (by kernel_rfl) 34 (.tmp 14) rfl g14 0 rfl _ _ rQ Tryd.underlying34 rfl size34 ?_) | (go_at_call 16; refine sm.mono ?_; clear sm; rintro e w11 ⟨rfl, t11⟩; have kl := HK.out w11 (t210.then_no t11)) | (go_at_call 17; refine kl.mono ?_; clear kl; rintro e w12 ⟨rfl, t12⟩))
  have t1012 := t11.then_no t12
  have T12 := T10.then_no t1012
  have RL12 := Row.turn RL10 t1012 (fun q => q)
  have RP12 := Row.turn RP10 t1012 (fun q => q)
  have B12 := B10.turn_no t1012
  clear t11 t12 RL10 RM10 RP10 RQ rL rM rP rQ B10 A10 t210 t1012 HK T10 he HE SM
  by_cases hpe : pe = 0
  · have n1 : (pe != 0) = false := by simpa using hpe
    obtain ⟨k, b, o, ⟨xv, xb⟩, hik, hkn, rfl, hc, hv⟩ := HV.out hpe
    obtain ⟨xa, xc, hxs⟩ := (hc w12 T12).2.slice
    generalize xb.length = xn at *
    simp only at hxs
    subst hxs
    have vf := VF.out
    have HC : Shut (∀ W, Turn no w12 W → W.cell? ⟨b, o + k, none⟩ = some (.slice xa xn xc)) := fun W t => (hc W (T12.then_no t)).1
    have HVf : Shut (∀ W, Turn no w12 W → Calls Tryd.prog 10 #[.agg HL, .agg #[.int .i64 pt, .int .i64 pi, .slice b5 L c5], .slice xa xn xc] W fun e w' => e = .returned (.int .i64 0) ∧ Turn no W w') := fun W t => by
      have := vf W (T12.then_no t) _ _ (B12.turn_no t) _ _ (hc W (T12.then_no t)).2
      rw [hv] at this
      exact this
    have HRL : Shut (∀ W, Turn no w12 W → W.rangeAt g8 0 HL.toList) := fun W t => Row.rng (Row.turn RL12 t (fun q => q))
    have HRP : Shut (∀ W, Turn no w12 W → W.rangeAt g10 0 [.int .i64 pt, .int .i64 pi, .slice b5 L c5]) := fun W t => Row.rng (Row.turn RP12 t (fun q => q))
    have hkn' : (k : Int) < (n : Int) := by omega
    subst hik
    subst hpe
    clear hc hv vf VF HV RL12 RP12 B12
    go_upto_region 13 with fail
    refine wp_region_held_drew (S := fun W => Turn no w12 W) (by kernel_rfl) (Turn.refl no w12).drew (fun hHeld => ?_)
    refine' wpAnyH_take (i := 0) (v := .agg HL.toList.toArray) rfl (by kernel_rfl) (by kernel_rfl) (by kernel_rfl) (fun _ _ _ h => h) (yieldsIf_load_mid (by kernel_rfl) 25 (.tmp 8) rfl g8 0 (by kernel_rfl) HL.toList _ (fun W h => HRL.out W h) Tryd.underlying25 rfl jL) hHeld ?s0
    refine' wpAnyH_take (i := 1) (v := .agg #[.int .i64 pt, .int .i64 pi, .slice b5 L c5]) rfl (by kernel_rfl) (by kernel_rfl) (by kernel_rfl) (fun _ _ _ h => h) (yieldsIf_load_mid (by kernel_rfl) 34 (.tmp 10) rfl g10 0 (by kernel_rfl) [.int .i64 pt, .int .i64 pi, .slice b5 L c5] _ (fun W h => HRP.out W h) Tryd.underlying34 rfl size34) hHeld ?s1
    refine' wpAnyH_take (i := 2) (v := .slice (some ⟨b, o, none⟩) n ca) rfl (by kernel_rfl) (by kernel_rfl) (by kernel_rfl) (fun _ _ _ h => h) (Or.inl ⟨by kernel_rfl, fun W hW => ?y1⟩) hHeld ?r1
    · go_simp
    refine' wpAnyH_take (i := 3) (v := .int .i64 k) rfl (by kernel_rfl) (by kernel_rfl) (by kernel_rfl) (fun _ _ _ h => h) (Or.inl ⟨by kernel_rfl, fun W hW => ?y2⟩) hHeld ?r2
    · go_simp
    refine' wpAnyH_take (i := 4) (v := .pointer (some ⟨b, o + k, none⟩)) rfl (by kernel_rfl) (by kernel_rfl) (by kernel_rfl) (fun _ _ _ h => h) (Or.inl ⟨by kernel_rfl, fun W hW => ?y3⟩) hHeld ?r3
    · go_simp
    refine' wpAnyH_take (i := 5) (v := .slice xa xn xc) rfl (by kernel_rfl) (by kernel_rfl) (by kernel_rfl) (fun _ _ _ h => h) (Or.inl ⟨by kernel_rfl, fun W hW => ?y4⟩) hHeld ?r4
    · have hc := HC.out W hW
      go_simp
    refine wpAnyH_ready (rs := [6]) (by kernel_rfl) (by simp) ?_
    refine AllReadyH.cons rfl (fun K hK => ?_) AllReadyH.nil
    go_simp
    refine (HVf.out _ hHeld).mono ?_
    rintro e w13 ⟨rfl, t13⟩
    refine hK.out _ _ (hHeld.then_no t13) (fun hHeld => ?_)
    clear hK
    refine wpAnyH_ready (rs := [7]) (by kernel_rfl) (by simp) ?_
    refine AllReadyH.cons rfl (fun K hK => ?_) AllReadyH.nil
    go_simp
    refine hK.out _ _ hHeld (fun hHeld => ?_)
    clear hK
    refine wpAnyH_done (by kernel_rfl) ?_ _
    go_simp
    have TE := T12.then_no hHeld
    clear HVf HC HRL HRP
    go_wp2_with fail
    go_ret
    exact ⟨rfl, TE⟩
  · have n1 : (pe != 0) = true := by simpa using hpe
    clear hpe
    go_wp2_with fail
    go_ret
    exact ⟨rfl, T12⟩
end Go.Proofs.YtnibmkenbidnfabDoor
