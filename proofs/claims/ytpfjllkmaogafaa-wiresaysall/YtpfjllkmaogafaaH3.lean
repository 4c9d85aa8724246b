/- What is signed of a proposal: the program. -/
import Derived.Test.YtpfjllkmaogafaaH2
namespace Go.Proofs.Ytpfjllkmaogafaa
open Go.RowKit
set_option linter.unusedVariables false

theorem plainP_kind {x : Po} (h : plainP x = 0) : 0 ≤ x.r ∧ x.r ≤ 65535 ∧ -1 ≤ x.vr ∧ x.vr < x.r := by
  unfold plainP at h
  have := fieldE_zero h
  simp [rB] at this
  omega
/-- A chain's name and a transaction. -/
def stCp (ch : ByteArray) (x : Po) : List Value := .string ch :: x.cs
def plainSp (ch : ByteArray) (x : Po) : Int := if cB ch then plainP x else 41
theorem size77 : (Try.prog.info? 77).map (·.size) = some 53 := by kernel_rfl
theorem Row.stp {w : World} {g : Nat} {ch : ByteArray} {x : Po} (r : Row w g (stCp ch x).toArray 77) : w.cell? ⟨g, 0, none⟩ = some (.string ch) ∧ w.rangeAt g 1 x.cs ∧ w.rangeAt g 0 (stCp ch x) := by
  have h0 : w.rangeAt g 0 (stCp ch x) := fun j u hu => by rw [Nat.zero_add]; exact r.cell j u (by simpa using hu)
  exact ⟨h0 0 _ rfl, fun j u hu => by have := h0 (j + 1) u hu; rwa [Nat.zero_add, Nat.add_comm] at this, h0⟩
theorem stCp_len {ch : ByteArray} {x : Po} (h : x.ok) : (stCp ch x).length = 53 := by simp [stCp, Po.len h]
set_option maxRecDepth 100000 in
set_option maxHeartbeats 2000000 in
theorem plainSt73 (w : World) (ch : ByteArray) (x : Po) (ho : x.ok) : Calls Try.prog 73 #[.agg (stCp ch x).toArray, .func (.func 33) #[] #[]] w fun e w' => e = .returned (.int .i64 (plainSp ch x)) ∧ Turn no w w' := by
  obtain ⟨c0, cr, _⟩ := (Row.new w (stCp ch x).toArray 77).stp
  have hl : (Try.prog.info? 33).map (·.size) = some x.cs.length := by rw [Po.len ho]; exact size33
  have P := fun W => plain33 W x ho
  have hC := chain109
  unfold plainSp
  generalize x.cs = D at *
  generalize plainP x = pt at *
  generalize (stCp ch x).toArray = C at *
  have t0 : Turn no w (w.alloc (.cells C 77)) := (Turn.refl no w).alloc _
  cases hc : cB ch
  · go_enter Try.func73, Try.ntmps73
    go_wp2_with (go_at_call 109; refine (hC _ _).mono ?_; rintro e w1 ⟨rfl, rfl⟩; rw [hc])
    go_ret
    exact ⟨rfl, t0⟩
  · go_enter Try.func73, Try.ntmps73
    go_wp2_with (first | (go_at_call 109; refine (hC _ _).mono ?_; rintro e w1 ⟨rfl, rfl⟩; rw [hc]) | (guard_target =~ wpList _ _ _ ({ dst := _, op := Op.load 33 _, .. } :: _) _ _; refine wpList_load_mid rfl 33 (.tmp 10) rfl w.heap.size 1 rfl D _ cr Try.underlying33 rfl hl ?_) | (go_at_call 33; refine (P _).mono ?_; rintro e w2 ⟨rfl, t2⟩))
    go_ret
    exact ⟨rfl, t0.then_no t2⟩
set_option maxRecDepth 100000 in
set_option maxHeartbeats 2000000 in
theorem clo72 (w : World) (ch : ByteArray) (x : Po) (ho : x.ok) (b : Nat) (hb : w.cell? ⟨b, 0, none⟩ = some (.func (.func 33) #[] #[])) : Calls Try.prog 72 #[.agg (stCp ch x).toArray, .pointer (some ⟨b, 0, none⟩)] w fun e w' => e = .returned (.int .i64 (plainSp ch x)) ∧ Turn no w w' := by
  obtain ⟨_, _, cr⟩ := (Row.new w (stCp ch x).toArray 77).stp
  have hl : (Try.prog.info? 77).map (·.size) = some (stCp ch x).length := by rw [stCp_len ho]; exact size77
  have P := fun W => plainSt73 W ch x ho
  generalize plainSp ch x = pt at *
  generalize stCp ch x = D at *
  have t0 : Turn no w (w.alloc (.cells D.toArray 77)) := (Turn.refl no w).alloc _
  have hb' := t0.keep hb (fun q => q)
  go_enter Try.func72, Try.ntmps72
  go_wp2_with (first | (guard_target =~ wpList _ _ _ ({ dst := _, op := Op.load 77 _, .. } :: _) _ _; refine wpList_load_mid rfl 77 (.tmp 2) rfl w.heap.size 0 rfl D _ cr Try.underlying77 rfl hl ?_) | (go_at_call 73; refine (P _).mono ?_; rintro e w2 ⟨rfl, t2⟩))
  go_ret
  exact ⟨rfl, t0.then_no t2⟩
/-- What is signed of it. -/
def stBp (ch : ByteArray) (x : Po) : List UInt8 := leB 80 1 ++ ((varE ch.size ++ ch.data.toList) ++ poB x)
set_option maxRecDepth 100000 in
set_option maxHeartbeats 4000000 in
theorem clo75 (w : World) (p : Nat) (v : Value) (h : Wr w p v [] 0) (ch : ByteArray) (hch : ch.size ≤ 16) (x : Po) (ho : x.ok) (hr1 : 0 ≤ x.r) (hr2 : x.r ≤ 65535) (hv1 : -1 ≤ x.vr) (hv2 : x.vr < x.r) (lb fb : Nat) (hl : w.cell? ⟨lb, 0, none⟩ = some (.int .u8 80)) (hf : w.cell? ⟨fb, 0, none⟩ = some (.func (.func 34) #[] #[])) (nl : ¬ wfoot p v lb) (nf : ¬ wfoot p v fb) :
    Calls Try.prog 75 #[.pointer (some ⟨p, 0, none⟩), .agg (stCp ch x).toArray, .pointer (some ⟨lb, 0, none⟩), .pointer (some ⟨fb, 0, none⟩)] w fun e w' => e = .returned (.tuple #[]) ∧ Laid w p v (stBp ch x) 0 w' := by
  obtain ⟨c0, cr, _⟩ := (Row.new w (stCp ch x).toArray 77).stp
  have hz : (Try.prog.info? 33).map (·.size) = some x.cs.length := by rw [Po.len ho]; exact size33
  have t0 : Turn no w (w.alloc (.cells (stCp ch x).toArray 77)) := (Turn.refl no w).alloc _
  have hb : ¬ wfoot p v w.heap.size := by
    rintro (q | q)
    · have := h.lt; omega
    · have := h.own.lt q; omega
  have L0 := Laid.refl (h.turn_no t0)
  have hl' := t0.keep hl (fun q => q)
  have hf' := t0.keep hf (fun q => q)
  have hBe : stBp ch x = [] ++ leB 80 1 ++ (varE ch.size ++ ch.data.toList) ++ poB x := by simp [stBp, List.append_assoc]
  rw [hBe]
  have hve := varE_le ch.size
  have hds : ch.data.toList.length = ch.size := by rw [Array.length_toList]; rfl
  have S1 : Calls Try.prog 57 #[.pointer (some ⟨p, 0, none⟩), .int .u8 80] _ _ := step57 L0 80 (by omega) (by simp)
  have S2 := fun W L => step58 (w0 := w.alloc (.cells (stCp ch x).toArray 77)) (W := W) (p := p) (v := v) (bs := [] ++ leB 80 1) L ch (by simp [leB]; omega)
  have S3 : ∀ W, Laid (w.alloc (.cells (stCp ch x).toArray 77)) p v ([] ++ leB 80 1 ++ (varE ch.size ++ ch.data.toList)) 0 W → Calls Try.prog 34 #[.pointer (some ⟨p, 0, none⟩), .agg x.cs.toArray, .func (.func 59) #[] #[]] W fun e w' => e = .returned (.tuple #[]) ∧ Laid (w.alloc (.cells (stCp ch x).toArray 77)) p v ([] ++ leB 80 1 ++ (varE ch.size ++ ch.data.toList) ++ poB x) 0 w' := fun W L => by
    obtain ⟨v1, k1, k2, k3⟩ := L
    exact (layProp34 W p v1 _ k1 x ho hr1 hr2 hv1 hv2 (by simp [leB]; omega)).mono (fun e w' ⟨q1, q2⟩ => ⟨q1, Laid.trans k1 k2 k3 q2⟩)
  have HC := shutX (fun W B (L : Laid (w.alloc (.cells (stCp ch x).toArray 77)) p v B 0 W) => And.intro (L.cell hb c0) (And.intro (L.cell nf hf') (fun j u hu => L.cell hb (cr j u hu) : W.rangeAt w.heap.size 1 x.cs)))
  have HS := shutX (And.intro S2 S3)
  clear S2 S3 hBe hve hds h c0 cr hl hf hf' L0
  generalize x.cs = D at *
  generalize (stCp ch x).toArray = C at *
  go_enter Try.func75, Try.ntmps75
  go_upto_region 2 with (go_at_call 57; refine S1.mono ?_; rintro e w1 ⟨rfl, L1⟩; obtain ⟨d1, -, -⟩ := HC.out w1 _ L1; clear S1)
  go_upto_region 3 with (go_at_call 58; refine (HS.out.1 _ L1).mono ?_; rintro e w2 ⟨rfl, L2⟩; obtain ⟨-, d2, d3⟩ := HC.out w2 _ L2)
  go_wp2_with (first | (guard_target =~ wpList _ _ _ ({ dst := _, op := Op.load 33 _, .. } :: _) _ _; refine wpList_load_mid rfl 33 (.tmp 15) rfl w.heap.size 1 rfl D _ d3 Try.underlying33 rfl hz ?_) | (go_at_call 34; refine (HS.out.2 _ L2).mono ?_; rintro e w3 ⟨rfl, L3⟩))
  go_end0
  exact ⟨rfl, L3.pre t0⟩
theorem plainSp_zero {ch : ByteArray} {x : Po} (h : plainSp ch x = 0) : ch.size ≤ 16 ∧ 0 ≤ x.r ∧ x.r ≤ 65535 ∧ -1 ≤ x.vr ∧ x.vr < x.r := by
  unfold plainSp at h
  cases hc : cB ch
  · rw [hc] at h; cases h
  · rw [hc] at h
    have := plainP_kind h
    unfold cB at hc
    simp at hc
    omega
def sBp (ch : ByteArray) (x : Po) : List UInt8 := if plainSp ch x = 0 then stBp ch x else []
set_option maxRecDepth 100000 in
set_option maxHeartbeats 4000000 in
theorem enc74 (w : World) (ch : ByteArray) (x : Po) (ho : x.ok) (pb lb fb : Nat) (hp : w.cell? ⟨pb, 0, none⟩ = some (.func (.func 33) #[] #[])) (hl : w.cell? ⟨lb, 0, none⟩ = some (.int .u8 80)) (hf : w.cell? ⟨fb, 0, none⟩ = some (.func (.func 34) #[] #[])) :
    Calls Try.prog 74 #[.agg (stCp ch x).toArray, .func (.func 72) #[] #[.pointer (some ⟨pb, 0, none⟩)], .func (.func 75) #[] #[.pointer (some ⟨lb, 0, none⟩), .pointer (some ⟨fb, 0, none⟩)]] w (Told w (plainSp ch x) (sBp ch x)) := by
  obtain ⟨_, _, cr⟩ := (Row.new w (stCp ch x).toArray 77).stp
  have hz : (Try.prog.info? 77).map (·.size) = some (stCp ch x).length := by rw [stCp_len ho]; exact size77
  have t0 : Turn no w (w.alloc (.cells (stCp ch x).toArray 77)) := (Turn.refl no w).alloc _
  have C53 := clo72 _ ch x ho pb (t0.keep hp (fun q => q))
  have HR := shutX (fun W (t : Turn no (w.alloc (.cells (stCp ch x).toArray 77)) W) => (fun j u hu => t.keep (cr j u hu) (fun q => q) : W.rangeAt w.heap.size 0 (stCp ch x)))
  have hlt := World.block_lt_of_cell? w _ hl
  have hft := World.block_lt_of_cell? w _ hf
  unfold sBp
  by_cases he : plainSp ch x = 0
  · rw [if_pos he]
    obtain ⟨hch, hr1, hr2, hv1, hv2⟩ := plainSp_zero he
    rw [he] at C53 ⊢
    have C56 : ∀ W W1, Turn no (w.alloc (.cells (stCp ch x).toArray 77)) W → Wr W1 W.heap.size (.slice none 0 0) [] 0 → Turn no W W1 → Calls Try.prog 75 #[.pointer (some ⟨W.heap.size, 0, none⟩), .agg (stCp ch x).toArray, .pointer (some ⟨lb, 0, none⟩), .pointer (some ⟨fb, 0, none⟩)] W1 fun e w' => e = .returned (.tuple #[]) ∧ Laid W1 W.heap.size (.slice none 0 0) (stBp ch x) 0 w' := fun W W1 t h t1 =>
      clo75 W1 _ _ h ch hch x ho hr1 hr2 hv1 hv2 lb fb ((t0.then_no t).then_no t1 |>.keep hl (fun q => q)) ((t0.then_no t).then_no t1 |>.keep hf (fun q => q))
        (by have := (t0.then_no t).size
            rintro (q | q)
            · have : lb < w.heap.size := hlt; omega
            · cases q)
        (by have := (t0.then_no t).size
            rintro (q | q)
            · have : fb < w.heap.size := hft; omega
            · cases q)
    have hBl : (stBp ch x).length ≤ 140737488355328 := by
      have a1 := varE_le ch.size
      have a2 : ch.data.toList.length = ch.size := by rw [Array.length_toList]; rfl
      have b1 := varE_le x.h; have b2 := varE_le x.r.toNat; have b3 := varE_le (x.vr + 1).toNat; have b4 := varE_le x.f; have b5 := ho.1
      simp only [stBp, poB, List.length_append, leB_length]
      omega
    have C111 := fun W p v h => out_made W p v (stBp ch x) h hBl
    have HH := shutX (And.intro C56 C111)
    clear C56 C111 hBl hch hr1 hr2 hv1 hv2 he hp hl hf hlt hft
    generalize stBp ch x = SB at *
    generalize stCp ch x = D at *
    go_enter Try.func74, Try.ntmps74
    go_upto_region 4 with (first | (guard_target =~ wpList _ _ _ ({ dst := _, op := Op.load 77 _, .. } :: _) _ _; refine wpList_load_mid rfl 77 (.tmp 3) rfl w.heap.size 0 rfl D _ cr Try.underlying77 rfl hz ?_) | (go_at_call 72; refine C53.mono ?_; rintro e w1 ⟨rfl, t1⟩))
    clear C53
    go_upto_region 5 with (go_at_call 110; refine (newWriter_any w1).mono ?_; rintro e w2 ⟨rfl, k2, t2⟩)
    have cr2 := HR.out w2 (t1.then_no t2)
    have C := HH.out.1 w1 w2 t1 k2 t2
    go_upto_region 6 with (first | (guard_target =~ wpList _ _ _ ({ dst := _, op := Op.load 77 _, .. } :: _) _ _; refine wpList_load_mid rfl 77 (.tmp 3) rfl w.heap.size 0 rfl D _ cr2 Try.underlying77 rfl hz ?_) | (go_at_call 75; refine C.mono ?_; rintro e w3 ⟨rfl, L3⟩))
    clear C
    obtain ⟨v3, k3, tt3, nn3⟩ := L3
    have C := HH.out.2 w3 _ _ k3
    have t3 : Turn no w1 w3 := t2.trans tt3 (fun i hi q => by
      rcases q with q | q
      · omega
      · cases q)
    go_wp2_with (go_at_call 111; refine C.mono ?_; rintro e w4 ⟨v4, rfl, o4, n4, t4⟩; obtain ⟨a4, l4, c4, rfl⟩ := o4.form)
    go_ret2
    have tA := (t0.then_no t1).then_no t3
    exact ⟨_, rfl, o4, fun g hg => Nat.le_trans tA.size (n4 g hg), tA.then_no t4⟩
  · rw [if_neg he]
    have he' : (plainSp ch x != 0) = true := by simpa using he
    generalize plainSp ch x = pe at *
    generalize stCp ch x = D at *
    go_enter Try.func74, Try.ntmps74
    go_wp2_with (first | (guard_target =~ wpList _ _ _ ({ dst := _, op := Op.load 77 _, .. } :: _) _ _; refine wpList_load_mid rfl 77 (.tmp 3) rfl w.heap.size 0 rfl D _ cr Try.underlying77 rfl hz ?_) | (go_at_call 72; refine C53.mono ?_; rintro e w1 ⟨rfl, t1⟩))
    go_ret2
    exact ⟨_, rfl, Own.nil _ _, fun g q => (by cases q), t0.then_no t1⟩
theorem built77 (ch : ByteArray) (B : List Value) (hb : B.length = 52) : Try.prog.built 77 [(0, .string ch), (1, .agg B.toArray)] = some (.string ch :: B).toArray := by
  obtain ⟨it, hit, z, hz, hzs⟩ : ∃ it, Try.prog.info? 77 = some it ∧ ∃ z, it.zero = some z ∧ z.cells.size = 1 + 52 := by
    have h : ((Try.prog.info? 77).bind (·.zero)).map (fun z => z.cells.size) = some (1 + 52) := by kernel_rfl
    cases hq : Try.prog.info? 77 with
    | none => rw [hq] at h; cases h
    | some it =>
      rw [hq] at h
      cases hz : it.zero with
      | none => simp [hz] at h
      | some z => simp [hz] at h; exact ⟨it, rfl, z, hz, h⟩
  obtain ⟨fs, hu, pl, hp, h0, h1⟩ : ∃ fs, Try.prog.underlying 77 = some (.struct fs) ∧ ∃ pl, fs.toList.mapM (fun f => (Try.prog.info? f.type).map fun i => (f.offset, i.size)) = some pl ∧ pl.toArray[0]? = some (0, 1) ∧ pl.toArray[1]? = some (1, 52) := by
    refine ⟨Try.prog.fieldsOf 77, by kernel_rfl, [(0, 1), (1, 52)], by kernel_rfl, rfl, rfl⟩
  unfold Program.built
  simp only [hit, hu, hz, hp]
  have := fill_gen z.cells (.string ch) (.agg B.toArray) 1 52 hzs rfl (by simpa [Value.cells] using hb) _ h0 h1
  rw [this]
  simp [Value.cells]
set_option maxRecDepth 100000 in
set_option maxHeartbeats 4000000 in
theorem encSt32 (w : World) (ch : ByteArray) (x : Po) (ho : x.ok) : Calls Try.prog 32 #[.int .u8 80, .agg (stCp ch x).toArray, .func (.func 33) #[] #[], .func (.func 34) #[] #[]] w (Told w (plainSp ch x) (sBp ch x)) := by
  have hz : (Try.prog.info? 77).map (·.size) = some (stCp ch x).length := by rw [stCp_len ho]; exact size77
  obtain ⟨w4, hw4⟩ : ∃ W, (((w.alloc (.cells #[.int .u8 80] 5)).alloc (.cells (stCp ch x).toArray 77)).alloc (.cells #[.func (.func 33) #[] #[]] 78)).alloc (.cells #[.func (.func 34) #[] #[]] 79) = W := ⟨_, rfl⟩
  have r1 : Row w4 w.heap.size #[.int .u8 80] 5 := by rw [← hw4]; exact ((((Row.new w _ 5).alloc _).alloc _).alloc _)
  have r2 : Row w4 (w.heap.size + 1) (stCp ch x).toArray 77 := by rw [← hw4]; exact ((Row.newAt _ _ 77 _ (by simp)).alloc _).alloc _
  have r3 : Row w4 (w.heap.size + 2) #[.func (.func 33) #[] #[]] 78 := by rw [← hw4]; exact (Row.newAt _ _ 78 _ (by simp)).alloc _
  have r4 : Row w4 (w.heap.size + 3) #[.func (.func 34) #[] #[]] 79 := by rw [← hw4]; exact Row.newAt _ _ 79 _ (by simp)
  have t4 : Turn no w w4 := by rw [← hw4]; exact ((((Turn.refl no w).alloc _).alloc _).alloc _).alloc _
  obtain ⟨_, _, cr⟩ := r2.stp
  have C := enc74 w4 ch x ho (w.heap.size + 2) w.heap.size (w.heap.size + 3) (r3.cell 0 _ rfl) (r1.cell 0 _ rfl) (r4.cell 0 _ rfl)
  clear r1 r2 r3 r4
  generalize plainSp ch x = pe at *
  generalize sBp ch x = SB at *
  generalize stCp ch x = D at *
  go_enter Try.func32, Try.ntmps32
  go_upto_region 1 with fail
  try rw [hw4]
  go_wp2_with (first | (guard_target =~ wpList _ _ _ ({ dst := _, op := Op.load 77 _, .. } :: _) _ _; refine wpList_load_mid rfl 77 (.tmp 5) rfl (w.heap.size + 1) 0 rfl D _ cr Try.underlying77 rfl hz ?_) | (go_at_call 74; refine C.mono ?_; rintro e w5 ⟨v5, rfl, o5, n5, t5⟩; obtain ⟨a5, l5, c5, rfl⟩ := o5.form))
  go_ret2
  exact ⟨_, rfl, o5, fun g hg => Nat.le_trans t4.size (n5 g hg), t4.then_no t5⟩
set_option maxRecDepth 100000 in
set_option maxHeartbeats 4000000 in
theorem propBytes9 (w : World) (ch : ByteArray) (x : Po) (ho : x.ok) : Calls Try.prog 9 #[.string ch, .agg x.cs.toArray] w (Told w (plainSp ch x) (sBp ch x)) := by
  have hz : (Try.prog.info? 33).map (·.size) = some x.cs.length := by rw [Po.len ho]; exact size33
  have cr := Row.range (Row.new w x.cs.toArray 33)
  have t0 : Turn no w (w.alloc (.cells x.cs.toArray 33)) := (Turn.refl no w).alloc _
  have hb := built77 ch x.cs (Po.len ho)
  have C := encSt32 (w.alloc (.cells x.cs.toArray 33)) ch x ho
  unfold stCp at C
  generalize plainSp ch x = pe at *
  generalize sBp ch x = SB at *
  generalize x.cs = D at *
  go_enter Try.func9, Try.ntmps9
  go_wp2_with (first | (guard_target =~ wpList _ _ _ ({ dst := _, op := Op.load 33 _, .. } :: _) _ _; refine wpList_load_mid rfl 33 (.tmp 3) rfl w.heap.size 0 rfl D _ cr Try.underlying33 rfl hz ?_) | (guard_target =~ wpList _ _ _ ({ dst := _, op := Op.build 77 _, .. } :: _) _ _; refine wpList_build_as rfl 77 0 1 (.tmp 6) (.tmp 7) rfl (.string ch) (.agg D.toArray) rfl rfl _ hb ?_) | (go_at_call 32; refine C.mono ?_; rintro e w5 ⟨v5, rfl, o5, n5, t5⟩; obtain ⟨a5, l5, c5, rfl⟩ := o5.form))
  go_ret2
  exact ⟨_, rfl, o5, fun g hg => Nat.le_trans t0.size (n5 g hg), t0.then_no t5⟩
end Go.Proofs.Ytpfjllkmaogafaa
