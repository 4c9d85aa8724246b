/- What is signed of a vote: the program. -/
import Derived.Test.YtpfjllkmaogafaaK1
import Derived.Test.YtpfjllkmaogafaaT6
namespace Go.Proofs.Ytpfjllkmaogafaa
open Go.RowKit
set_option linter.unusedVariables false

theorem Row.range {w : World} {g : Nat} {cs : List Value} {t : TypeId} (r : Row w g cs.toArray t) : w.rangeAt g 0 cs := fun j u hu => by rw [Nat.zero_add]; exact r.cell j u (by simpa using hu)
theorem fieldE_zero {b : Bool} (h : fieldE b = 0) : b = true := by cases b <;> simp_all [fieldE]
theorem plainE_kind {x : Vt} (h : plainE x = 0) : 1 ≤ x.k ∧ x.k ≤ 2 ∧ 0 ≤ x.r ∧ x.r ≤ 65535 := by
  unfold plainE at h
  by_cases h1 : x.k = 1
  · rw [if_pos h1] at h
    have := fieldE_zero h
    simp [rB] at this
    omega
  · rw [if_neg h1] at h
    by_cases h2 : x.k = 2
    · rw [if_pos h2] at h
      have := fieldE_zero h
      simp [rB] at this
      omega
    · rw [if_neg h2] at h; cases h
/-- A chain's name and a transaction. -/
def stCv (ch : ByteArray) (x : Vt) : List Value := .string ch :: x.cs
def plainSv (ch : ByteArray) (x : Vt) : Int := if cB ch then plainE x else 41
theorem size72 : (Try.prog.info? 72).map (·.size) = some 54 := by kernel_rfl
theorem Row.stv {w : World} {g : Nat} {ch : ByteArray} {x : Vt} (r : Row w g (stCv ch x).toArray 72) : w.cell? ⟨g, 0, none⟩ = some (.string ch) ∧ w.rangeAt g 1 x.cs ∧ w.rangeAt g 0 (stCv ch x) := by
  have h0 : w.rangeAt g 0 (stCv ch x) := fun j u hu => by rw [Nat.zero_add]; exact r.cell j u (by simpa using hu)
  exact ⟨h0 0 _ rfl, fun j u hu => by have := h0 (j + 1) u hu; rwa [Nat.zero_add, Nat.add_comm] at this, h0⟩
theorem stCv_len {ch : ByteArray} {x : Vt} (h : x.fits) : (stCv ch x).length = 54 := by simp [stCv, Vt.len h.1]
set_option maxRecDepth 100000 in
set_option maxHeartbeats 2000000 in
theorem plainSt64 (w : World) (ch : ByteArray) (x : Vt) (ho : x.fits) : Calls Try.prog 64 #[.agg (stCv ch x).toArray, .func (.func 30) #[] #[]] w fun e w' => e = .returned (.int .i64 (plainSv ch x)) ∧ Turn no w w' := by
  obtain ⟨c0, cr, _⟩ := (Row.new w (stCv ch x).toArray 72).stv
  have hl : (Try.prog.info? 31).map (·.size) = some x.cs.length := by rw [Vt.len ho.1]; exact size29
  have P := fun W => plain9 W x ho.1
  have hC := chain109
  unfold plainSv
  generalize x.cs = D at *
  generalize plainE x = pt at *
  generalize (stCv ch x).toArray = C at *
  have t0 : Turn no w (w.alloc (.cells C 72)) := (Turn.refl no w).alloc _
  cases hc : cB ch
  · go_enter Try.func64, Try.ntmps64
    go_wp2_with (go_at_call 109; refine (hC _ _).mono ?_; rintro e w1 ⟨rfl, rfl⟩; rw [hc])
    go_ret
    exact ⟨rfl, t0⟩
  · go_enter Try.func64, Try.ntmps64
    go_wp2_with (first | (go_at_call 109; refine (hC _ _).mono ?_; rintro e w1 ⟨rfl, rfl⟩; rw [hc]) | (guard_target =~ wpList _ _ _ ({ dst := _, op := Op.load 31 _, .. } :: _) _ _; refine wpList_load_mid rfl 31 (.tmp 10) rfl w.heap.size 1 rfl D _ cr Try.underlying31 rfl hl ?_) | (go_at_call 30; refine (P _).mono ?_; rintro e w2 ⟨rfl, t2⟩))
    go_ret
    exact ⟨rfl, t0.then_no t2⟩
set_option maxRecDepth 100000 in
set_option maxHeartbeats 2000000 in
theorem clo63 (w : World) (ch : ByteArray) (x : Vt) (ho : x.fits) (b : Nat) (hb : w.cell? ⟨b, 0, none⟩ = some (.func (.func 30) #[] #[])) : Calls Try.prog 63 #[.agg (stCv ch x).toArray, .pointer (some ⟨b, 0, none⟩)] w fun e w' => e = .returned (.int .i64 (plainSv ch x)) ∧ Turn no w w' := by
  obtain ⟨_, _, cr⟩ := (Row.new w (stCv ch x).toArray 72).stv
  have hl : (Try.prog.info? 72).map (·.size) = some (stCv ch x).length := by rw [stCv_len ho]; exact size72
  have P := fun W => plainSt64 W ch x ho
  generalize plainSv ch x = pt at *
  generalize stCv ch x = D at *
  have t0 : Turn no w (w.alloc (.cells D.toArray 72)) := (Turn.refl no w).alloc _
  have hb' := t0.keep hb (fun q => q)
  go_enter Try.func63, Try.ntmps63
  go_wp2_with (first | (guard_target =~ wpList _ _ _ ({ dst := _, op := Op.load 72 _, .. } :: _) _ _; refine wpList_load_mid rfl 72 (.tmp 2) rfl w.heap.size 0 rfl D _ cr Try.underlying72 rfl hl ?_) | (go_at_call 64; refine (P _).mono ?_; rintro e w2 ⟨rfl, t2⟩))
  go_ret
  exact ⟨rfl, t0.then_no t2⟩
/-- What is signed of it. -/
def stBv (ch : ByteArray) (x : Vt) : List UInt8 := leB 86 1 ++ ((varE ch.size ++ ch.data.toList) ++ voB x)
set_option maxRecDepth 100000 in
set_option maxHeartbeats 4000000 in
theorem clo66 (w : World) (p : Nat) (v : Value) (h : Wr w p v [] 0) (ch : ByteArray) (hch : ch.size ≤ 16) (x : Vt) (ho : x.fits) (hk1 : 1 ≤ x.k) (hk4 : x.k ≤ 2) (hr1 : 0 ≤ x.r) (hr2 : x.r ≤ 65535) (lb fb : Nat) (hl : w.cell? ⟨lb, 0, none⟩ = some (.int .u8 86)) (hf : w.cell? ⟨fb, 0, none⟩ = some (.func (.func 31) #[] #[])) (nl : ¬ wfoot p v lb) (nf : ¬ wfoot p v fb) :
    Calls Try.prog 66 #[.pointer (some ⟨p, 0, none⟩), .agg (stCv ch x).toArray, .pointer (some ⟨lb, 0, none⟩), .pointer (some ⟨fb, 0, none⟩)] w fun e w' => e = .returned (.tuple #[]) ∧ Laid w p v (stBv ch x) 0 w' := by
  obtain ⟨c0, cr, _⟩ := (Row.new w (stCv ch x).toArray 72).stv
  have hz : (Try.prog.info? 31).map (·.size) = some x.cs.length := by rw [Vt.len ho.1]; exact size29
  have t0 : Turn no w (w.alloc (.cells (stCv ch x).toArray 72)) := (Turn.refl no w).alloc _
  have hb : ¬ wfoot p v w.heap.size := by
    rintro (q | q)
    · have := h.lt; omega
    · have := h.own.lt q; omega
  have L0 := Laid.refl (h.turn_no t0)
  have hl' := t0.keep hl (fun q => q)
  have hf' := t0.keep hf (fun q => q)
  have hBe : stBv ch x = [] ++ leB 86 1 ++ (varE ch.size ++ ch.data.toList) ++ voB x := by simp [stBv, List.append_assoc]
  rw [hBe]
  have hve := varE_le ch.size
  have hds : ch.data.toList.length = ch.size := by rw [Array.length_toList]; rfl
  have S1 : Calls Try.prog 57 #[.pointer (some ⟨p, 0, none⟩), .int .u8 86] _ _ := step57 L0 86 (by omega) (by simp)
  have S2 := fun W L => step58 (w0 := w.alloc (.cells (stCv ch x).toArray 72)) (W := W) (p := p) (v := v) (bs := [] ++ leB 86 1) L ch (by simp [leB]; omega)
  have S3 : ∀ W, Laid (w.alloc (.cells (stCv ch x).toArray 72)) p v ([] ++ leB 86 1 ++ (varE ch.size ++ ch.data.toList)) 0 W → Calls Try.prog 31 #[.pointer (some ⟨p, 0, none⟩), .agg x.cs.toArray, .func (.func 59) #[] #[]] W fun e w' => e = .returned (.tuple #[]) ∧ Laid (w.alloc (.cells (stCv ch x).toArray 72)) p v ([] ++ leB 86 1 ++ (varE ch.size ++ ch.data.toList) ++ voB x) 0 w' := fun W L => by
    obtain ⟨v1, k1, k2, k3⟩ := L
    exact (layVote31 W p v1 _ k1 x ho hk1 hk4 hr1 hr2 (by simp [leB]; omega)).mono (fun e w' ⟨q1, q2⟩ => ⟨q1, Laid.trans k1 k2 k3 q2⟩)
  have HC := shutX (fun W B (L : Laid (w.alloc (.cells (stCv ch x).toArray 72)) p v B 0 W) => And.intro (L.cell hb c0) (And.intro (L.cell nf hf') (fun j u hu => L.cell hb (cr j u hu) : W.rangeAt w.heap.size 1 x.cs)))
  have HS := shutX (And.intro S2 S3)
  clear S2 S3 hBe hve hds h c0 cr hl hf hf' L0
  generalize x.cs = D at *
  generalize (stCv ch x).toArray = C at *
  go_enter Try.func66, Try.ntmps66
  go_upto_region 2 with (go_at_call 57; refine S1.mono ?_; rintro e w1 ⟨rfl, L1⟩; obtain ⟨d1, -, -⟩ := HC.out w1 _ L1; clear S1)
  go_upto_region 3 with (go_at_call 58; refine (HS.out.1 _ L1).mono ?_; rintro e w2 ⟨rfl, L2⟩; obtain ⟨-, d2, d3⟩ := HC.out w2 _ L2)
  go_wp2_with (first | (guard_target =~ wpList _ _ _ ({ dst := _, op := Op.load 31 _, .. } :: _) _ _; refine wpList_load_mid rfl 31 (.tmp 15) rfl w.heap.size 1 rfl D _ d3 Try.underlying31 rfl hz ?_) | (go_at_call 31; refine (HS.out.2 _ L2).mono ?_; rintro e w3 ⟨rfl, L3⟩))
  go_end0
  exact ⟨rfl, L3.pre t0⟩
theorem plainSv_zero {ch : ByteArray} {x : Vt} (h : plainSv ch x = 0) : ch.size ≤ 16 ∧ 1 ≤ x.k ∧ x.k ≤ 2 ∧ 0 ≤ x.r ∧ x.r ≤ 65535 := by
  unfold plainSv at h
  cases hc : cB ch
  · rw [hc] at h; cases h
  · rw [hc] at h
    have := plainE_kind h
    unfold cB at hc
    simp at hc
    omega
def sBv (ch : ByteArray) (x : Vt) : List UInt8 := if plainSv ch x = 0 then stBv ch x else []
set_option maxRecDepth 100000 in
set_option maxHeartbeats 4000000 in
theorem enc65 (w : World) (ch : ByteArray) (x : Vt) (ho : x.fits) (pb lb fb : Nat) (hp : w.cell? ⟨pb, 0, none⟩ = some (.func (.func 30) #[] #[])) (hl : w.cell? ⟨lb, 0, none⟩ = some (.int .u8 86)) (hf : w.cell? ⟨fb, 0, none⟩ = some (.func (.func 31) #[] #[])) :
    Calls Try.prog 65 #[.agg (stCv ch x).toArray, .func (.func 63) #[] #[.pointer (some ⟨pb, 0, none⟩)], .func (.func 66) #[] #[.pointer (some ⟨lb, 0, none⟩), .pointer (some ⟨fb, 0, none⟩)]] w (Told w (plainSv ch x) (sBv ch x)) := by
  obtain ⟨_, _, cr⟩ := (Row.new w (stCv ch x).toArray 72).stv
  have hz : (Try.prog.info? 72).map (·.size) = some (stCv ch x).length := by rw [stCv_len ho]; exact size72
  have t0 : Turn no w (w.alloc (.cells (stCv ch x).toArray 72)) := (Turn.refl no w).alloc _
  have C53 := clo63 _ ch x ho pb (t0.keep hp (fun q => q))
  have HR := shutX (fun W (t : Turn no (w.alloc (.cells (stCv ch x).toArray 72)) W) => (fun j u hu => t.keep (cr j u hu) (fun q => q) : W.rangeAt w.heap.size 0 (stCv ch x)))
  have hlt := World.block_lt_of_cell? w _ hl
  have hft := World.block_lt_of_cell? w _ hf
  unfold sBv
  by_cases he : plainSv ch x = 0
  · rw [if_pos he]
    obtain ⟨hch, hk1, hk4, hr1, hr2⟩ := plainSv_zero he
    rw [he] at C53 ⊢
    have C56 : ∀ W W1, Turn no (w.alloc (.cells (stCv ch x).toArray 72)) W → Wr W1 W.heap.size (.slice none 0 0) [] 0 → Turn no W W1 → Calls Try.prog 66 #[.pointer (some ⟨W.heap.size, 0, none⟩), .agg (stCv ch x).toArray, .pointer (some ⟨lb, 0, none⟩), .pointer (some ⟨fb, 0, none⟩)] W1 fun e w' => e = .returned (.tuple #[]) ∧ Laid W1 W.heap.size (.slice none 0 0) (stBv ch x) 0 w' := fun W W1 t h t1 =>
      clo66 W1 _ _ h ch hch x ho hk1 hk4 hr1 hr2 lb fb ((t0.then_no t).then_no t1 |>.keep hl (fun q => q)) ((t0.then_no t).then_no t1 |>.keep hf (fun q => q))
        (by have := (t0.then_no t).size
            rintro (q | q)
            · have : lb < w.heap.size := hlt; omega
            · cases q)
        (by have := (t0.then_no t).size
            rintro (q | q)
            · have : fb < w.heap.size := hft; omega
            · cases q)
    have hBl : (stBv ch x).length ≤ 140737488355328 := by
      have a1 := varE_le ch.size
      have a2 : ch.data.toList.length = ch.size := by rw [Array.length_toList]; rfl
      have b1 := varE_le x.h.toNat; have b2 := varE_le x.r.toNat; have b3 := varE_le x.t.toNat; have b4 := varE_le x.f.toNat; have b5 := ho.1.1
      simp only [stBv, voB, List.length_append, leB_length]
      omega
    have C111 := fun W p v h => out_made W p v (stBv ch x) h hBl
    have HH := shutX (And.intro C56 C111)
    clear C56 C111 hBl hch hk1 hk4 hr1 hr2 he hp hl hf hlt hft
    generalize stBv ch x = SB at *
    generalize stCv ch x = D at *
    go_enter Try.func65, Try.ntmps65
    go_upto_region 4 with (first | (guard_target =~ wpList _ _ _ ({ dst := _, op := Op.load 72 _, .. } :: _) _ _; refine wpList_load_mid rfl 72 (.tmp 3) rfl w.heap.size 0 rfl D _ cr Try.underlying72 rfl hz ?_) | (go_at_call 63; refine C53.mono ?_; rintro e w1 ⟨rfl, t1⟩))
    clear C53
    go_upto_region 5 with (go_at_call 110; refine (newWriter_any w1).mono ?_; rintro e w2 ⟨rfl, k2, t2⟩)
    have cr2 := HR.out w2 (t1.then_no t2)
    have C := HH.out.1 w1 w2 t1 k2 t2
    go_upto_region 6 with (first | (guard_target =~ wpList _ _ _ ({ dst := _, op := Op.load 72 _, .. } :: _) _ _; refine wpList_load_mid rfl 72 (.tmp 3) rfl w.heap.size 0 rfl D _ cr2 Try.underlying72 rfl hz ?_) | (go_at_call 66; refine C.mono ?_; rintro e w3 ⟨rfl, L3⟩))
    clear C
    obtain ⟨v3, k3, tt3, nn3⟩ := L3
    have C := HH.out.2 w3 _ _ k3
    have t3 : Turn no w1 w3 := t2.trans tt3 (fun i hi q => by
      rcases q with q | q
      · omega
      · cases q)
    go_wp2_with (go_at_call 111; refine C.mono ?_; rintro e w4 ⟨v4, rfl, o4, n4, t4⟩; obtain ⟨a4, l4, c4, rfl⟩ := o4.form)
    go_ret2
    have tA := (t0.then_no t1).then_no t3
    exact ⟨_, rfl, o4, fun g hg => Nat.le_trans tA.size (n4 g hg), tA.then_no t4⟩
  · rw [if_neg he]
    have he' : (plainSv ch x != 0) = true := by simpa using he
    generalize plainSv ch x = pe at *
    generalize stCv ch x = D at *
    go_enter Try.func65, Try.ntmps65
    go_wp2_with (first | (guard_target =~ wpList _ _ _ ({ dst := _, op := Op.load 72 _, .. } :: _) _ _; refine wpList_load_mid rfl 72 (.tmp 3) rfl w.heap.size 0 rfl D _ cr Try.underlying72 rfl hz ?_) | (go_at_call 63; refine C53.mono ?_; rintro e w1 ⟨rfl, t1⟩))
    go_ret2
    exact ⟨_, rfl, Own.nil _ _, fun g q => (by cases q), t0.then_no t1⟩
theorem built72 (ch : ByteArray) (B : List Value) (hb : B.length = 53) : Try.prog.built 72 [(0, .string ch), (1, .agg B.toArray)] = some (.string ch :: B).toArray := by
  obtain ⟨it, hit, z, hz, hzs⟩ : ∃ it, Try.prog.info? 72 = some it ∧ ∃ z, it.zero = some z ∧ z.cells.size = 1 + 53 := by
    have h : ((Try.prog.info? 72).bind (·.zero)).map (fun z => z.cells.size) = some (1 + 53) := by kernel_rfl
    cases hq : Try.prog.info? 72 with
    | none => rw [hq] at h; cases h
    | some it =>
      rw [hq] at h
      cases hz : it.zero with
      | none => simp [hz] at h
      | some z => simp [hz] at h; exact ⟨it, rfl, z, hz, h⟩
  obtain ⟨fs, hu, pl, hp, h0, h1⟩ : ∃ fs, Try.prog.underlying 72 = some (.struct fs) ∧ ∃ pl, fs.toList.mapM (fun f => (Try.prog.info? f.type).map fun i => (f.offset, i.size)) = some pl ∧ pl.toArray[0]? = some (0, 1) ∧ pl.toArray[1]? = some (1, 53) := by
    refine ⟨Try.prog.fieldsOf 72, by kernel_rfl, [(0, 1), (1, 53)], by kernel_rfl, rfl, rfl⟩
  unfold Program.built
  simp only [hit, hu, hz, hp]
  have := fill_gen z.cells (.string ch) (.agg B.toArray) 1 53 hzs rfl (by simpa [Value.cells] using hb) _ h0 h1
  rw [this]
  simp [Value.cells]
set_option maxRecDepth 100000 in
set_option maxHeartbeats 4000000 in
theorem encSt29 (w : World) (ch : ByteArray) (x : Vt) (ho : x.fits) : Calls Try.prog 29 #[.int .u8 86, .agg (stCv ch x).toArray, .func (.func 30) #[] #[], .func (.func 31) #[] #[]] w (Told w (plainSv ch x) (sBv ch x)) := by
  have hz : (Try.prog.info? 72).map (·.size) = some (stCv ch x).length := by rw [stCv_len ho]; exact size72
  obtain ⟨w4, hw4⟩ : ∃ W, (((w.alloc (.cells #[.int .u8 86] 5)).alloc (.cells (stCv ch x).toArray 72)).alloc (.cells #[.func (.func 30) #[] #[]] 73)).alloc (.cells #[.func (.func 31) #[] #[]] 74) = W := ⟨_, rfl⟩
  have r1 : Row w4 w.heap.size #[.int .u8 86] 5 := by rw [← hw4]; exact ((((Row.new w _ 5).alloc _).alloc _).alloc _)
  have r2 : Row w4 (w.heap.size + 1) (stCv ch x).toArray 72 := by rw [← hw4]; exact ((Row.newAt _ _ 72 _ (by simp)).alloc _).alloc _
  have r3 : Row w4 (w.heap.size + 2) #[.func (.func 30) #[] #[]] 73 := by rw [← hw4]; exact (Row.newAt _ _ 73 _ (by simp)).alloc _
  have r4 : Row w4 (w.heap.size + 3) #[.func (.func 31) #[] #[]] 74 := by rw [← hw4]; exact Row.newAt _ _ 74 _ (by simp)
  have t4 : Turn no w w4 := by rw [← hw4]; exact ((((Turn.refl no w).alloc _).alloc _).alloc _).alloc _
  obtain ⟨_, _, cr⟩ := r2.stv
  have C := enc65 w4 ch x ho (w.heap.size + 2) w.heap.size (w.heap.size + 3) (r3.cell 0 _ rfl) (r1.cell 0 _ rfl) (r4.cell 0 _ rfl)
  clear r1 r2 r3 r4
  generalize plainSv ch x = pe at *
  generalize sBv ch x = SB at *
  generalize stCv ch x = D at *
  go_enter Try.func29, Try.ntmps29
  go_upto_region 1 with fail
  try rw [hw4]
  go_wp2_with (first | (guard_target =~ wpList _ _ _ ({ dst := _, op := Op.load 72 _, .. } :: _) _ _; refine wpList_load_mid rfl 72 (.tmp 5) rfl (w.heap.size + 1) 0 rfl D _ cr Try.underlying72 rfl hz ?_) | (go_at_call 65; refine C.mono ?_; rintro e w5 ⟨v5, rfl, o5, n5, t5⟩; obtain ⟨a5, l5, c5, rfl⟩ := o5.form))
  go_ret2
  exact ⟨_, rfl, o5, fun g hg => Nat.le_trans t4.size (n5 g hg), t4.then_no t5⟩
set_option maxRecDepth 100000 in
set_option maxHeartbeats 4000000 in
theorem voteBytes8 (w : World) (ch : ByteArray) (x : Vt) (ho : x.fits) : Calls Try.prog 8 #[.string ch, .agg x.cs.toArray] w (Told w (plainSv ch x) (sBv ch x)) := by
  have hz : (Try.prog.info? 31).map (·.size) = some x.cs.length := by rw [Vt.len ho.1]; exact size29
  have cr := Row.range (Row.new w x.cs.toArray 31)
  have t0 : Turn no w (w.alloc (.cells x.cs.toArray 31)) := (Turn.refl no w).alloc _
  have hb := built72 ch x.cs (Vt.len ho.1)
  have C := encSt29 (w.alloc (.cells x.cs.toArray 31)) ch x ho
  unfold stCv at C
  generalize plainSv ch x = pe at *
  generalize sBv ch x = SB at *
  generalize x.cs = D at *
  go_enter Try.func8, Try.ntmps8
  go_wp2_with (first | (guard_target =~ wpList _ _ _ ({ dst := _, op := Op.load 31 _, .. } :: _) _ _; refine wpList_load_mid rfl 31 (.tmp 3) rfl w.heap.size 0 rfl D _ cr Try.underlying31 rfl hz ?_) | (guard_target =~ wpList _ _ _ ({ dst := _, op := Op.build 72 _, .. } :: _) _ _; refine wpList_build_as rfl 72 0 1 (.tmp 6) (.tmp 7) rfl (.string ch) (.agg D.toArray) rfl rfl _ hb ?_) | (go_at_call 29; refine C.mono ?_; rintro e w5 ⟨v5, rfl, o5, n5, t5⟩; obtain ⟨a5, l5, c5, rfl⟩ := o5.form))
  go_ret2
  exact ⟨_, rfl, o5, fun g hg => Nat.le_trans t0.size (n5 g hg), t0.then_no t5⟩
end Go.Proofs.Ytpfjllkmaogafaa
