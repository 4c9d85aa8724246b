/- LedgerSounds: the walk. -/
import Derived.Test.YtdbfbdhnjbmmjaaH3
import Derived.Test.YtdbfbdhnjbmmjaaH4
import Derived.Test.YtdbfbdhnjbmmjaaG7
import Derived.Test.YtdbfbdhnjbmmjaaG9
import Derived.Deep.MidRow
namespace Go.Proofs.Ytdbfbdhnjbmmjaa
open Go.RowKit
set_option linter.unusedVariables false

def led4 (va vr : Value) (b s : Int) : Array Value := #[va, vr, .int .u64 b, .int .u64 s]
theorem rs_nil (w : World) : Rs w (.slice none 0 0) [] := ⟨none, 0, rfl, by simp, by simp [maxLen], (fun m hm => by cases hm), fun j m hj => by simp at hj⟩
theorem as_nil (w : World) : As w (.slice none 0 0) [] := ⟨none, 0, rfl, by simp, by simp [maxLen], (fun m hm => by cases hm), fun j m hj => by simp at hj⟩
/-- What New made of a list, of both sides. -/
def NewP (w : World) (l : List Ac) (v : Value) (q : Nat) (e : Int) : Prop := e = newE l ∧ ((newE l = 0 ∧ As w v l ∧ q = sumN 0 l []) ∨ (newE l ≠ 0 ∧ v = .slice none 0 0 ∧ q = 0))
theorem NewP.slice {w : World} {l : List Ac} {v : Value} {q : Nat} {e : Int} (h : NewP w l v q e) : ∃ a n c, v = .slice a n c := by
  rcases h.2 with ⟨_, ⟨a, c, e, _⟩, _⟩ | ⟨_, e, _⟩
  · exact ⟨_, _, _, e⟩
  · exact ⟨_, _, _, e⟩
theorem NewP.turn {w w' : World} {l : List Ac} {v : Value} {q : Nat} {e : Int} (h : NewP w l v q e) (t : Turn no w w') : NewP w' l v q e := by
  rcases h with ⟨h0, ⟨h1, h2, h3⟩ | h1⟩
  · exact ⟨h0, Or.inl ⟨h1, h2.turn_no t, h3⟩⟩
  · exact ⟨h0, Or.inr h1⟩
theorem new6p (w : World) (va : Value) (l : List Ac) (ha : As w va l) (hl : l.length * 40 ≤ 140737488355328) : Calls Try.prog 6 #[va] w fun e w' => ∃ v q k, e = .returned (.tuple #[.agg #[v, .slice none 0 0, .int .u64 0, .int .u64 (q : Nat)], .int .i64 k]) ∧ NewP w' l v q k ∧ Turn no w w' := by
  refine (new6 w va l ha hl).mono ?_
  rintro e w' (⟨h1, v, rfl, O, _, t⟩ | ⟨h1, rfl, t⟩)
  · have hE : newE l = 0 := by rw [← new_same]; exact h1
    exact ⟨v, _, 0, rfl, ⟨hE.symm, Or.inl ⟨hE, O.as ha.oks, (new_sum hE).1.symm⟩⟩, t⟩
  · have hE : newE l ≠ 0 := by rw [← new_same]; exact h1
    exact ⟨_, 0, _, rfl, ⟨new_same l, Or.inr ⟨hE, rfl, rfl⟩⟩, t⟩
theorem new7p (w : World) (va : Value) (l : List Ac) (ha : As w va l) (hl : l.length * 40 ≤ 140737488355328) : Calls Try.prog 7 #[va] w fun e w' => ∃ v q k, e = .returned (.tuple #[.agg #[v, .slice none 0 0, .int .u64 0, .int .u64 (q : Nat)], .int .i64 k]) ∧ NewP w' l v q k ∧ Turn no w w' := by
  refine (new7g w va l ha hl).mono ?_
  rintro e w' (⟨h1, v, rfl, A, t⟩ | ⟨h1, rfl, t⟩)
  · exact ⟨v, _, 0, rfl, ⟨h1.symm, Or.inl ⟨h1, A, rfl⟩⟩, t⟩
  · exact ⟨_, 0, _, rfl, ⟨rfl, Or.inr ⟨h1, rfl, rfl⟩⟩, t⟩
theorem sameN (W : World) (l : List Ac) (v v' : Value) (q q' : Nat) (e e' : Int) (h : NewP W l v q e) (h' : NewP W l v' q' e') : Calls Try.prog 16 #[.agg #[v, .slice none 0 0, .int .u64 0, .int .u64 q], .agg #[v', .slice none 0 0, .int .u64 0, .int .u64 q']] W fun e w' => e = .returned (.bool true) ∧ Turn no W w' := by
  rcases h.2 with ⟨h1, h2, h3⟩ | ⟨h1, h2, h3⟩
  · rcases h'.2 with ⟨k1, k2, k3⟩ | ⟨k1, _⟩
    · rw [h3, k3]
      exact same16 W _ _ _ _ l [] h2 (rs_nil W) k2 (rs_nil W) 0 _
    · exact absurd h1 k1
  · rcases h'.2 with ⟨k1, _⟩ | ⟨k1, k2, k3⟩
    · exact absurd k1 h1
    · rw [h2, h3, k2, k3]
      exact same16 W _ _ _ _ [] [] (as_nil W) (rs_nil W) (as_nil W) (rs_nil W) 0 _
theorem field29 (W : World) (v0 v1 v2 v3 : Value) : (Instr.field 29 (.agg #[v0, v1, v2, v3]) 0).run Try.prog W = .ok v0 W := by kernel_rfl
theorem wpList_field_as {P : Program} {ops : Array Oper} {rest : List Oper} {o : Oper} {a : Act} {w : World} {Q : Exit → Act → World → Prop} (hg : o.guard = none) (t : TypeId) (x : Operand) (f : Nat) (ho : o.op = .field t x f) (v u : Value) (hx : a.eval x = v) (hr : (Instr.field t v f).run P w = .ok u w) (h : wpList P ops Q rest (a.put o.dst u) w) : wpList P ops Q (o :: rest) a w :=
  wpList_plain hg fun K hK => by
    unfold Oper.wp execOp
    simp only [ho, hx, Sem.run_bind, hr, Result.andThen_ok, Sem.run_pure]
    exact hK _ _ h
set_option maxRecDepth 100000 in
set_option maxHeartbeats 80000000 in
theorem sounds4 (w : World) (va vr : Value) (l : List Ac) (r : List Rl) (ha : As w va l) (hr : Rs w vr r) (hla : l.length * 40 ≤ 140737488351232) (hlr : r.length * 32 ≤ 140737488351232) (b s x : Nat) (mb : Nat) (st : Int) (p2 p3 p4 p5 p6 p7 p8 p9 p10 p11 : Value) :
    Calls Try.prog 4 #[.agg #[va, vr, .int .u64 b, .int .u64 s], .int .u64 x, .agg #[.int .u64 mb, .int .i64 st, p2, p3, p4, p5, p6, p7, p8, p9, p10, p11]] w fun e w' => e = .returned (.bool true) ∧ Turn no w w' := by
  have HA := shut ha
  have HR := shut hr
  obtain ⟨a, cap, rfl, hA⟩ := ha
  obtain ⟨p, pc, rfl, hP⟩ := hr
  obtain ⟨w0, hw0⟩ : ∃ w0, (w.alloc (.cells #[.slice a l.length cap, .slice p r.length pc, .int .u64 b, .int .u64 s] 29)).alloc (.cells #[.int .u64 mb, .int .i64 st, p2, p3, p4, p5, p6, p7, p8, p9, p10, p11] 25) = w0 := ⟨_, rfl⟩
  have T0 : Turn no w w0 := by rw [← hw0]; exact ((Turn.refl no w).alloc _).alloc _
  have B0 : Row w0 w.heap.size #[.slice a l.length cap, .slice p r.length pc, .int .u64 b, .int .u64 s] 29 := by rw [← hw0]; exact (Row.new w _ 29).alloc _
  have B1 : Row w0 (w.heap.size + 1) #[.int .u64 mb, .int .i64 st, p2, p3, p4, p5, p6, p7, p8, p9, p10, p11] 25 := by rw [← hw0]; exact Row.newAt _ _ _ _ (by simp)
  have HX : Shut (∀ W, Turn no w0 W → (W.cell? ⟨w.heap.size, 0, none⟩ = some (.slice a l.length cap) ∧ W.cell? ⟨w.heap.size, 1, none⟩ = some (.slice p r.length pc) ∧ W.cell? ⟨w.heap.size, 2, none⟩ = some (.int .u64 b) ∧ W.cell? ⟨w.heap.size, 3, none⟩ = some (.int .u64 s)) ∧ As W (.slice a l.length cap) l ∧ Rs W (.slice p r.length pc) r ∧ Row W (w.heap.size + 1) #[.int .u64 mb, .int .i64 st, p2, p3, p4, p5, p6, p7, p8, p9, p10, p11] 25 ∧ Turn no w W) := fun W t =>
    ⟨⟨t.keep (B0.cell 0 _ rfl) (fun q => q), t.keep (B0.cell 1 _ rfl) (fun q => q), t.keep (B0.cell 2 _ rfl) (fun q => q), t.keep (B0.cell 3 _ rfl) (fun q => q)⟩, HA.out.turn_no (T0.then_no t), HR.out.turn_no (T0.then_no t), B1.turn t (fun q => q), T0.then_no t⟩
  have hal := alive5 w0
  have hl40 : l.length * 40 ≤ 140737488355328 := by omega
  have HL40 := shut hl40
  have HLA := shut hla
  have HLR := shut hlr
  clear hA hP T0 B0 B1 hla hlr hl40
  obtain ⟨n, hn⟩ : ∃ n, Hid (l.length = n) := ⟨_, rfl⟩
  have hn' : l.length = n := hn.out
  obtain ⟨k, hk⟩ : ∃ k, Hid (r.length = k) := ⟨_, rfl⟩
  have hk' : r.length = k := hk.out
  rw [hn', hk'] at hw0 HX ⊢
  clear hn' hk'
  go_enter Try.func4, Try.ntmps4
  go_upto_region 1 with fail
  try rw [hw0]
  clear hw0
  go_upto_region 4 with (go_at_call 5; refine hal.mono ?_; clear hal; rintro e w1 ⟨rfl, t1⟩)
  -- roomy
  obtain ⟨⟨x0, x1, x2, x3⟩, hA1, hR1, _, _⟩ := HX.out w1 t1
  have hro := roomy10 w1 _ _ l r hA1 hR1 HLA.out HLR.out b s
  rw [hn.out, hk.out] at hro
  have HT1 := shut t1
  clear hA1 hR1 t1
  go_upto_region 5 with (go_at_call 10; refine hro.mono ?_; clear hro; rintro e w2 ⟨ga, fc, gr, rc, rfl, hRo, t2⟩)
  clear x0 x1 x2 x3
  obtain ⟨w3, hw3⟩ : ∃ w3, w2.alloc (.cells #[.slice (some ⟨ga, 0, none⟩) (n + 2) fc, .slice (some ⟨gr, 0, none⟩) (k + 2) rc, .int .u64 b, .int .u64 s] 29) = w3 := ⟨_, rfl⟩
  have t3 : Turn no w2 w3 := by rw [← hw3]; exact (Turn.refl no w2).alloc _
  have R3 : Row w3 w2.heap.size #[.slice (some ⟨ga, 0, none⟩) (n + 2) fc, .slice (some ⟨gr, 0, none⟩) (k + 2) rc, .int .u64 b, .int .u64 s] 29 := by rw [← hw3]; exact Row.new w2 _ 29
  have T03 := (HT1.out.then_no t2).then_no t3
  have HF : Shut (∀ W, Turn no w3 W → W.cell? ⟨w2.heap.size, 0, none⟩ = some (.slice (some ⟨ga, 0, none⟩) (n + 2) fc) ∧ W.cell? ⟨w2.heap.size, 1, none⟩ = some (.slice (some ⟨gr, 0, none⟩) (k + 2) rc) ∧ W.cell? ⟨w2.heap.size, 2, none⟩ = some (.int .u64 b) ∧ W.cell? ⟨w2.heap.size, 3, none⟩ = some (.int .u64 s)) := fun W t =>
    ⟨t.keep (R3.cell 0 _ rfl) (fun q => q), t.keep (R3.cell 1 _ rfl) (fun q => q), t.keep (R3.cell 2 _ rfl) (fun q => q), t.keep (R3.cell 3 _ rfl) (fun q => q)⟩
  have HRO : Shut (∀ W, Turn no w3 W → Roomy W ga fc gr rc l r) := fun W t => hRo.turn_no (t3.then_no t)
  have HX3 : Shut (∀ W, Turn no w3 W → (W.cell? ⟨w.heap.size, 0, none⟩ = some (.slice a n cap) ∧ W.cell? ⟨w.heap.size, 1, none⟩ = some (.slice p k pc) ∧ W.cell? ⟨w.heap.size, 2, none⟩ = some (.int .u64 b) ∧ W.cell? ⟨w.heap.size, 3, none⟩ = some (.int .u64 s)) ∧ As W (.slice a n cap) l ∧ Rs W (.slice p k pc) r ∧ Row W (w.heap.size + 1) #[.int .u64 mb, .int .i64 st, p2, p3, p4, p5, p6, p7, p8, p9, p10, p11] 25 ∧ Turn no w W) := fun W t => HX.out W (T03.then_no t)
  have HCUT : Shut (∀ W, Turn no w3 W → Calls Try.prog 12 #[.agg #[.slice (some ⟨ga, 0, none⟩) (n + 2) fc, .slice (some ⟨gr, 0, none⟩) (k + 2) rc, .int .u64 b, .int .u64 s]] W fun e w' => e = .returned (.agg #[.slice (some ⟨ga, 0, none⟩) n fc, .slice (some ⟨gr, 0, none⟩) k rc, .int .u64 b, .int .u64 s]) ∧ Turn no W w') := fun W t => by
    have h := (HRO.out W t).room
    rw [hn.out, hk.out] at h
    exact cut12 W _ _ _ _ _ _ h.1 h.2.1 h.2.2.1 h.2.2.2 b s
  have HAC : Shut (∀ W, Turn no w3 W → As W (.slice (some ⟨ga, 0, none⟩) n fc) l ∧ Rs W (.slice (some ⟨gr, 0, none⟩) k rc) r) := fun W t => by
    have h1 := As.of_at (HRO.out W t).acs
    have h2 := Rs.of_at (HRO.out W t).rls
    rw [hn.out] at h1
    rw [hk.out] at h2
    exact ⟨h1, h2⟩
  have HSND : Shut (∀ W, Turn no w3 W → Calls Try.prog 11 #[.agg #[.slice (some ⟨ga, 0, none⟩) n fc, .slice (some ⟨gr, 0, none⟩) k rc, .int .u64 b, .int .u64 s]] W fun e w' => e = .returned (.int .i64 (ledE b l r s)) ∧ Turn no W w') := fun W t => sound11 W _ _ l r (HAC.out W t).1 (HAC.out W t).2 b s
  have HS14 : Shut (∀ W, Turn no w3 W → Calls Try.prog 14 #[.agg #[.slice a n cap, .slice p k pc, .int .u64 b, .int .u64 s]] W fun e w' => e = .returned (.int .i64 (ledE b l r s)) ∧ Turn no W w') := fun W t => sound14 W _ _ l r (HX3.out W t).2.1 (HX3.out W t).2.2.1 b s
  have HNEW : Shut (∀ W, Turn no w3 W → Calls Try.prog 6 #[.slice (some ⟨ga, 0, none⟩) n fc] W fun e w' => ∃ v q k, e = .returned (.tuple #[.agg #[v, .slice none 0 0, .int .u64 0, .int .u64 (q : Nat)], .int .i64 k]) ∧ NewP w' l v q k ∧ Turn no W w') := fun W t => new6p W _ l (HAC.out W t).1 HL40.out
  have HN7 : Shut (∀ W, Turn no w3 W → Calls Try.prog 7 #[.slice a n cap] W fun e w' => ∃ v q k, e = .returned (.tuple #[.agg #[v, .slice none 0 0, .int .u64 0, .int .u64 (q : Nat)], .int .i64 k]) ∧ NewP w' l v q k ∧ Turn no W w') := fun W t => new7p W _ l (HX3.out W t).2.1 HL40.out
  have HFND : Shut (∀ W, Turn no w3 W → Calls Try.prog 13 #[.agg #[.slice (some ⟨ga, 0, none⟩) n fc, .slice (some ⟨gr, 0, none⟩) k rc, .int .u64 b, .int .u64 s], .int .u64 x] W fun e w' => ∃ m k, e = .returned (.tuple #[.agg #[.int .u64 m.ad, .int .u64 m.bal, .int .u64 m.bond, .int .u64 m.nonce, .bool m.jail], .int .i64 k]) ∧ FindP l x m k ∧ Turn no W w') := fun W t => find13g W _ _ l (HAC.out W t).1 b s x
  have HF15 : Shut (∀ W, Turn no w3 W → Calls Try.prog 15 #[.agg #[.slice a n cap, .slice p k pc, .int .u64 b, .int .u64 s], .int .u64 x] W fun e w' => ∃ m k, e = .returned (.tuple #[.agg #[.int .u64 m.ad, .int .u64 m.bal, .int .u64 m.bond, .int .u64 m.nonce, .bool m.jail], .int .i64 k]) ∧ FindP l x m k ∧ Turn no W w') := fun W t => find15 W _ _ l (HX3.out W t).2.1 ⟨_, _, _, rfl⟩ b s x
  have HKP : Shut (∀ W, Turn no w3 W → Calls Try.prog 17 #[.agg #[.slice (some ⟨ga, 0, none⟩) (n + 2) fc, .slice (some ⟨gr, 0, none⟩) (k + 2) rc, .int .u64 b, .int .u64 s], .agg #[.slice a n cap, .slice p k pc, .int .u64 b, .int .u64 s]] W fun e w' => e = .returned (.bool true) ∧ Turn no W w') := fun W t => by
    have := kept17 W ga fc gr rc _ _ l r (HRO.out W t) (HX3.out W t).2.1 (HX3.out W t).2.2.1 b s
    rw [hn.out, hk.out] at this
    exact this
  have HLE : Shut (ledE b l r s = 0 → Asc l ∧ l.length ≤ 65536) := fun h => by
    unfold ledE at h
    split at h
    · cases h
    · split at h
      · rename_i z; exact absurd h z
      · rename_i z1 z2
        exact ⟨(scanA_asc l 0 (Classical.byContradiction z2)).1, by omega⟩
  have HSE8 : Shut (ledE b l r s = 0 → ∀ W, Turn no w3 W → Calls Try.prog 8 #[.agg #[.slice (some ⟨ga, 0, none⟩) n fc, .slice (some ⟨gr, 0, none⟩) k rc, .int .u64 b, .int .u64 s], .agg #[.int .u64 mb, .int .i64 st, p2, p3, p4, p5, p6, p7, p8, p9, p10, p11]] W fun e w' => ∃ v L, e = .returned v ∧ Seated l L mb st ∧ OwnN w' 37 3 v L.length (meC L) ∧ Turn no W w') := fun h W t => by
    refine (seats8g W _ _ _ _ l (HAC.out W t).1 HL40.out (HLE.out h).1.inj b s #[.int .u64 mb, .int .i64 st, p2, p3, p4, p5, p6, p7, p8, p9, p10, p11] mb st rfl rfl).mono ?_
    rintro e w' ⟨v, q, rfl, hq, hsq, O, t'⟩
    exact ⟨v, _, rfl, seated_of (HLE.out h).1 hq hsq, O, t'⟩
  have HS19 : Shut (ledE b l r s = 0 → ∀ W, Turn no w3 W → Calls Try.prog 19 #[.agg #[.slice a n cap, .slice p k pc, .int .u64 b, .int .u64 s], .agg #[.int .u64 mb, .int .i64 st, p2, p3, p4, p5, p6, p7, p8, p9, p10, p11]] W fun e w' => ∃ v L, e = .returned v ∧ Seated l L mb st ∧ OwnN w' 37 3 v L.length (meC L) ∧ Turn no W w') := fun h W t =>
    rseats19 W _ _ l (HX3.out W t).2.1 ⟨_, _, _, rfl⟩ (HLE.out h).1 (HLE.out h).2 b s mb st p2 p3 p4 p5 p6 p7 p8 p9 p10 p11
  have HT3 : Shut (Turn no w3 w3) := Turn.refl no w3
  clear hRo R3 t3 t2 T03 HX HT1 HRO HA HR HLA HLR
  generalize hE : ledE b l r s = E at *
  have HEE := shut hE
  clear hE
  try rw [hw3]
  clear hw3
  obtain ⟨f0, f1, f2, f3⟩ := HF.out w3 HT3.out
  go_upto_region 6 with (first | (go_at_call 12; refine (HCUT.out w3 HT3.out).mono ?_; rintro e w4 ⟨rfl, t4⟩) | (go_at_call 11; refine (HSND.out w4 t4).mono ?_; rintro e w5 ⟨rfl, t5⟩))
  have HT5 := shut (t4.then_no t5)
  clear f0 f1 f2 f3 t4 t5 HSND
  obtain ⟨f0, f1, f2, f3⟩ := HF.out w5 HT5.out
  go_upto_region 7 with (first | (refine wpList_field_as rfl 29 (.tmp 30) 0 rfl _ _ rfl (field29 _ _ _ _ _) ?_) | (go_at_call 12; refine (HCUT.out w5 HT5.out).mono ?_; rintro e w6 ⟨rfl, t6⟩; have HT6 := shut (HT5.out.then_no t6)) | (go_at_call 6; refine (HNEW.out w6 HT6.out).mono ?_; rintro e w7 ⟨nv, nq, ne, rfl, hN, t7⟩; obtain ⟨na, nn, nc, rfl⟩ := hN.slice; have HN1 := shut hN; have HT7 := shut (HT6.out.then_no t7); clear hN t7 HNEW))
  clear f0 f1 f2 f3 t6
  obtain ⟨w8, hw8⟩ : ∃ w8, w7.alloc (.cells #[.slice na nn nc, .slice none 0 0, .int .u64 0, .int .u64 nq] 29) = w8 := ⟨_, rfl⟩
  have t8 : Turn no w7 w8 := by rw [← hw8]; exact (Turn.refl no w7).alloc _
  have R8 : Row w8 w7.heap.size #[.slice na nn nc, .slice none 0 0, .int .u64 0, .int .u64 nq] 29 := by rw [← hw8]; exact Row.new w7 _ 29
  have HT8 := shut (HT7.out.then_no t8)
  have HN8 := shut (HN1.out.turn t8)
  have HR8 := shut R8
  try rw [hw8]
  clear hw8 t8 R8 HN1
  obtain ⟨f0, f1, f2, f3⟩ := HF.out w8 HT8.out
  go_upto_region 8 with (first | (go_at_call 12; refine (HCUT.out w8 HT8.out).mono ?_; rintro e w9 ⟨rfl, t9⟩; have HT9 := shut (t9)) | (go_at_call 13; refine (HFND.out w9 (HT8.out.then_no HT9.out)).mono ?_; rintro e w10 ⟨m, fe, rfl, hF1, t10⟩; have HF1 := shut hF1; have HT10 := shut (HT9.out.then_no t10); clear hF1 t10 HFND))
  clear f0 f1 f2 f3 t9
  obtain ⟨w11, hw11⟩ : ∃ w11, w10.alloc (.cells #[.int .u64 m.ad, .int .u64 m.bal, .int .u64 m.bond, .int .u64 m.nonce, .bool m.jail] 39) = w11 := ⟨_, rfl⟩
  have t11 : Turn no w10 w11 := by rw [← hw11]; exact (Turn.refl no w10).alloc _
  have R11 : Row w11 w10.heap.size #[.int .u64 m.ad, .int .u64 m.bal, .int .u64 m.bond, .int .u64 m.nonce, .bool m.jail] 39 := by rw [← hw11]; exact Row.new w10 _ 39
  have HT8b := shut (HT10.out.then_no t11)
  have HT11 := shut (HT8.out.then_no HT8b.out)
  have HR11 := shut R11
  try rw [hw11]
  clear hw11 t11 R11 HT9 HT10
  obtain ⟨⟨x0, x1, x2, x3⟩, _⟩ := HX3.out w11 HT11.out
  go_upto_region 9 with (go_at_call 14; refine (HS14.out w11 HT11.out).mono ?_; rintro e w12 ⟨rfl, t12⟩; clear HS14)
  have HT12 := shut (HT11.out.then_no t12)
  have HR12 := shut (HR11.out.turn t12 (fun q => q))
  have HR8c := shut ((HR8.out.turn HT8b.out (fun q => q)).turn t12 (fun q => q))
  have HN12 := shut ((HN8.out.turn HT8b.out).turn t12)
  clear x0 x1 x2 x3 t12 HR11 HR8 HN8 HT8b HT11
  obtain ⟨⟨x0, _, _, _⟩, _⟩ := HX3.out w12 HT12.out
  go_upto_region 10 with (go_at_call 7; refine (HN7.out w12 HT12.out).mono ?_; rintro e w13 ⟨mv, mq, me, rfl, hM, t13⟩; obtain ⟨ma, mn, mc, rfl⟩ := hM.slice; have HM1 := shut hM; have HT13 := shut t13; clear hM t13 HN7)
  clear x0
  obtain ⟨w14, hw14⟩ : ∃ w14, w13.alloc (.cells #[.slice ma mn mc, .slice none 0 0, .int .u64 0, .int .u64 mq] 29) = w14 := ⟨_, rfl⟩
  have t14 : Turn no w13 w14 := by rw [← hw14]; exact (Turn.refl no w13).alloc _
  have R14 : Row w14 w13.heap.size #[.slice ma mn mc, .slice none 0 0, .int .u64 0, .int .u64 mq] 29 := by rw [← hw14]; exact Row.new w13 _ 29
  have HT14b := shut (HT13.out.then_no t14)
  have HT14 := shut (HT12.out.then_no HT14b.out)
  have HM14 := shut (HM1.out.turn t14)
  have HR14 := shut R14
  try rw [hw14]
  clear hw14 t14 R14 HM1 HT13
  obtain ⟨⟨x0, x1, x2, x3⟩, _⟩ := HX3.out w14 HT14.out
  go_upto_region 11 with (go_at_call 15; refine (HF15.out w14 HT14.out).mono ?_; rintro e w15 ⟨m2, fe2, rfl, hF2, t15⟩; have HF2 := shut hF2; have HT15 := shut t15; clear hF2 t15 HF15)
  obtain ⟨hmm, hee⟩ := HF1.out.one HF2.out
  subst hmm
  subst hee
  have hnm : ne = me := by rw [HN12.out.1, HM14.out.1]
  subst hnm
  clear x0 x1 x2 x3 HF1 HF2
  obtain ⟨w16, hw16⟩ : ∃ w16, w15.alloc (.cells #[.int .u64 m.ad, .int .u64 m.bal, .int .u64 m.bond, .int .u64 m.nonce, .bool m.jail] 39) = w16 := ⟨_, rfl⟩
  have t16 : Turn no w15 w16 := by rw [← hw16]; exact (Turn.refl no w15).alloc _
  have R16 : Row w16 w15.heap.size #[.int .u64 m.ad, .int .u64 m.bal, .int .u64 m.bond, .int .u64 m.nonce, .bool m.jail] 39 := by rw [← hw16]; exact Row.new w15 _ 39
  have HT16b := shut (HT15.out.then_no t16)
  have HT16 := shut (HT14.out.then_no HT16b.out)
  have HTc := shut (HT14b.out.then_no HT16b.out)
  have HR16 := shut R16
  have HQ : Shut (∀ W, Turn no w16 W → (Row W w10.heap.size #[.int .u64 m.ad, .int .u64 m.bal, .int .u64 m.bond, .int .u64 m.nonce, .bool m.jail] 39 ∧ Row W w7.heap.size #[.slice na nn nc, .slice none 0 0, .int .u64 0, .int .u64 nq] 29 ∧ Row W w13.heap.size #[.slice ma mn mc, .slice none 0 0, .int .u64 0, .int .u64 mq] 29 ∧ Row W w15.heap.size #[.int .u64 m.ad, .int .u64 m.bal, .int .u64 m.bond, .int .u64 m.nonce, .bool m.jail] 39) ∧ NewP W l (.slice na nn nc) nq ne ∧ NewP W l (.slice ma mn mc) mq ne) := fun W t =>
    ⟨⟨(HR12.out.turn HTc.out (fun q => q)).turn t (fun q => q), (HR8c.out.turn HTc.out (fun q => q)).turn t (fun q => q), (HR14.out.turn HT16b.out (fun q => q)).turn t (fun q => q), HR16.out.turn t (fun q => q)⟩, (HN12.out.turn HTc.out).turn t, (HM14.out.turn HT16b.out).turn t⟩
  try rw [hw16]
  clear hw16 t16 R16 HT15 HT14 HT14b HT16b HTc HR16 HR14 HR12 HR8c HN12 HM14 HT12 HT8 HT7 HT6 HT5
  have hs16 := sameN w16 l _ _ nq mq ne ne (HQ.out w16 (Turn.refl no w16)).2.1 (HQ.out w16 (Turn.refl no w16)).2.2
  have HRW := (HQ.out w16 (Turn.refl no w16)).1
  have n0 := HRW.2.1.cell 0 _ rfl
  have n1 := HRW.2.1.cell 1 _ rfl
  have n2 := HRW.2.1.cell 2 _ rfl
  have n3 := HRW.2.1.cell 3 _ rfl
  have k0 := HRW.2.2.1.cell 0 _ rfl
  have k1 := HRW.2.2.1.cell 1 _ rfl
  have k2 := HRW.2.2.1.cell 2 _ rfl
  have k3 := HRW.2.2.1.cell 3 _ rfl
  clear HRW
  have hE0 : (E != E) = false := by simp
  have hE1 : (ne != ne) = false := by simp
  have hE2 : (fe != fe) = false := by simp
  go_upto_region 13 with (first | (go_at_call 16; refine hs16.mono ?_; clear hs16; rintro e w17 ⟨rfl, t17⟩; have HRV := (HQ.out w17 t17).1; have a0 := HRV.1.cell 0 _ rfl; have a1 := HRV.1.cell 1 _ rfl; have a2 := HRV.1.cell 2 _ rfl; have a3 := HRV.1.cell 3 _ rfl; have a4 := HRV.1.cell 4 _ rfl; have b0 := HRV.2.2.2.cell 0 _ rfl; have b1 := HRV.2.2.2.cell 1 _ rfl; have b2 := HRV.2.2.2.cell 2 _ rfl; have b3 := HRV.2.2.2.cell 3 _ rfl; have b4 := HRV.2.2.2.cell 4 _ rfl; have HT17 := shut (HT16.out.then_no t17); obtain ⟨f0, f1, f2, f3⟩ := HF.out w17 HT17.out; obtain ⟨⟨x0, x1, x2, x3⟩, _⟩ := HX3.out w17 HT17.out; clear HRV) | (go_at_call 17; refine (HKP.out w17 HT17.out).mono ?_; rintro e w18 ⟨rfl, t18⟩; have HT18 := shut (HT17.out.then_no t18); clear t18))
  clear n0 n1 n2 n3 k0 k1 k2 k3 a0 a1 a2 a3 a4 b0 b1 b2 b3 b4 f0 f1 f2 f3 x0 x1 x2 x3 hE0 hE1 hE2 t17 HQ HT16 HT17
  have HTW := shut (HX3.out w18 HT18.out).2.2.2.2
  by_cases hE : E = 0
  · have HSE := shut (HSE8.out hE)
    have HSR := shut (HS19.out hE)
    subst hE
    clear HSE8 HS19
    have HY : Shut (∀ W, Turn no w18 W → (W.cell? ⟨w2.heap.size, 0, none⟩ = some (.slice (some ⟨ga, 0, none⟩) (n + 2) fc) ∧ W.cell? ⟨w2.heap.size, 1, none⟩ = some (.slice (some ⟨gr, 0, none⟩) (k + 2) rc) ∧ W.cell? ⟨w2.heap.size, 2, none⟩ = some (.int .u64 b) ∧ W.cell? ⟨w2.heap.size, 3, none⟩ = some (.int .u64 s)) ∧ Row W (w.heap.size + 1) #[.int .u64 mb, .int .i64 st, p2, p3, p4, p5, p6, p7, p8, p9, p10, p11] 25) := fun W t => ⟨HF.out W (HT18.out.then_no t), (HX3.out W (HT18.out.then_no t)).2.2.2.1⟩
    have hi25 : (Try.prog.info? 25).map (·.size) = some (#[.int .u64 mb, .int .i64 st, p2, p3, p4, p5, p6, p7, p8, p9, p10, p11] : Array Value).toList.length := by kernel_rfl
    go_upto_region 15 with fail
    refine wp_region_held_drew (S := fun W => Turn no w18 W) (by kernel_rfl) (Turn.refl no w18).drew (fun hHeld => ?_)
    refine' wpAnyH_take (i := 0) (v := .agg #[.slice (some ⟨ga, 0, none⟩) (n + 2) fc, .slice (some ⟨gr, 0, none⟩) (k + 2) rc, .int .u64 b, .int .u64 s]) rfl (by kernel_rfl) (by kernel_rfl) (by kernel_rfl) (fun _ _ _ h => h) (Or.inl ⟨by kernel_rfl, fun W hW => ?y1⟩) hHeld ?r1
    · obtain ⟨⟨q0, q1, q2, q3⟩, _⟩ := HY.out W hW
      go_simp
    refine' wpAnyH_take (i := 2) (v := .agg #[.int .u64 mb, .int .i64 st, p2, p3, p4, p5, p6, p7, p8, p9, p10, p11]) rfl (by kernel_rfl) (by kernel_rfl) (by kernel_rfl) (fun _ _ _ h => h) (yieldsIf_load_mid (by kernel_rfl) 25 (.tmp 5) rfl (w.heap.size + 1) 0 (by kernel_rfl) (#[.int .u64 mb, .int .i64 st, p2, p3, p4, p5, p6, p7, p8, p9, p10, p11] : Array Value).toList _ (fun W h => fun j u hu => by rw [Nat.zero_add]; exact (HY.out W h).2.cell j u (by simpa using hu)) Try.underlying25 rfl hi25) hHeld ?l2
    refine wpAnyH_ready (rs := [1]) (by kernel_rfl) (by simp) ?_
    refine AllReadyH.cons rfl (fun K hK => ?_) AllReadyH.nil
    go_simp
    refine (HCUT.out _ (HT18.out.then_no hHeld)).mono ?_
    rintro e w19 ⟨rfl, t19⟩
    refine hK.out _ _ (hHeld.then_no t19) (fun hHeld => ?_)
    clear hK
    refine wpAnyH_ready (rs := [3]) (by kernel_rfl) (by simp) ?_
    refine AllReadyH.cons rfl (fun K hK => ?_) AllReadyH.nil
    go_simp
    refine (HSE.out _ (HT18.out.then_no hHeld)).mono ?_
    rintro e w20 ⟨sv, L, rfl, hSd, hO, t20⟩
    refine hK.out _ _ (hHeld.then_no t20) (fun hHeld => ?_)
    clear hK
    refine' wpAnyH_take (i := 4) (v := sv) rfl (by kernel_rfl) (by kernel_rfl) (by kernel_rfl) (fun _ _ _ h => h) (Or.inl ⟨by kernel_rfl, fun W hW => ?y2⟩) hHeld ?r2
    · go_simp
    refine wpAnyH_done (by kernel_rfl) ?_ _
    go_simp
    have HT20 := shut (HT18.out.then_no hHeld)
    have HO20 := shut hO
    have HSD := shut hSd
    clear hHeld t19 t20 hO hSd HY HT18 HSE
    obtain ⟨⟨x0, x1, x2, x3⟩, _, _, hrow, _⟩ := HX3.out w20 HT20.out
    have hi25' : (Try.prog.info? 25).map (·.size) = some (#[.int .u64 mb, .int .i64 st, p2, p3, p4, p5, p6, p7, p8, p9, p10, p11] : Array Value).size := by kernel_rfl
    go_wp2_with (first | (refine wpList_load_row rfl 25 (.tmp 5) rfl (w.heap.size + 1) rfl 25 #[.int .u64 mb, .int .i64 st, p2, p3, p4, p5, p6, p7, p8, p9, p10, p11] _ _ hrow Try.underlying25 rfl hi25' ?_) | (go_at_call 19; refine (HSR.out w20 HT20.out).mono ?_; rintro e w21 ⟨rv, M, rfl, hSd2, hO2, t21⟩; have hLM := HSD.out.one (HLE.out rfl).1 hSd2; subst hLM; have HT21 := shut (HT20.out.then_no t21); have hsm := sameM18 w21 sv rv L.length L rfl (HO20.out.turn_no t21) hO2; clear hSd2 hO2 t21) | (go_at_call 18; refine hsm.mono ?_; clear hsm; rintro e w22 ⟨rfl, t22⟩; have HT22 := shut (HT21.out.then_no t22); clear t22; obtain ⟨g0, g1, g2, g3⟩ := HF.out w22 HT22.out; obtain ⟨⟨y0, y1, y2, y3⟩, _⟩ := HX3.out w22 HT22.out) | (go_at_call 17; refine (HKP.out w22 HT22.out).mono ?_; rintro e w23 ⟨rfl, t23⟩; have HT23 := shut (HT22.out.then_no t23); clear t23))
    go_ret
    exact ⟨rfl, (HX3.out w23 HT23.out).2.2.2.2⟩
  · have hE' : (E != 0) = true := by simpa using hE
    clear HSE8 HS19 HLE hE
    go_wp2_with fail
    go_ret
    exact ⟨rfl, HTW.out⟩
end Go.Proofs.Ytdbfbdhnjbmmjaa
