/- Texts in one. -/
import Derived.Test.YtgbcdjjnpadddaaGreatDoorQT
import Derived.Test.YtgbcdjjnpadddaaGreatDoorQU
/- layVote. -/
namespace Go.Proofs.YtgbcdjjnpadddaaGreatDoor
open Go.RowKit
set_option linter.unusedVariables false

/-- A vote whose numbers fit. -/
def Vt.fits (v : Vt) : Prop := v.ok ∧ (0 ≤ v.h ∧ v.h < 18446744073709551616) ∧ (0 ≤ v.t ∧ v.t < 18446744073709551616) ∧ (0 ≤ v.f ∧ v.f < 18446744073709551616)
/-- What a vote is without its seal. -/
def voB (x : Vt) : List UInt8 := leB x.k.toNat 1 ++ (varE x.h.toNat ++ (varE x.r.toNat ++ (x.id ++ (varE x.t.toNat ++ varE x.f.toNat))))
theorem bs_range {w : World} {b o : Nat} {X : List UInt8} (h : w.rangeAt b o (X.map bv)) (n : Nat) (hn : X.length = n) (hm : n ≤ 100) : Bs w (.slice (some ⟨b, o, none⟩) n n) X := by
  subst hn
  refine Or.inr ⟨⟨b, o, none⟩, X.length, rfl, Nat.le_refl _, by unfold maxLen; omega, fun j u hu => ?_⟩
  rw [Addr.add_lit]
  exact h j (bv u) (by rw [List.getElem?_map, hu]; rfl)
set_option maxRecDepth 100000 in
set_option maxHeartbeats 4000000 in
theorem layVote31 (w : World) (p : Nat) (v : Value) (bs : List UInt8) (h : Wr w p v bs 0) (x : Vt) (ho : x.fits) (hk1 : 1 ≤ x.k) (hk4 : x.k ≤ 2) (hr1 : 0 ≤ x.r) (hr2 : x.r ≤ 65535) (hle : bs.length + 1000 ≤ 140737488355328) :
    Calls Tryz.prog 95 #[.pointer (some ⟨p, 0, none⟩), .agg x.cs.toArray, .func (.func 134) #[] #[]] w fun e w' => e = .returned (.tuple #[]) ∧ Laid w p v (bs ++ voB x) 0 w' := by
  obtain ⟨hok, hh, ht, hf⟩ := ho
  obtain ⟨c0, c1, c2, c3, c4, ci⟩ := (Row.new w x.cs.toArray 50).vt hok
  have t0 : Turn no w (w.alloc (.cells x.cs.toArray 50)) := (Turn.refl no w).alloc _
  have L0 := Laid.refl (h.turn_no t0)
  have hb : ¬ wfoot p v w.heap.size := by
    rintro (q | q)
    · have := h.lt; omega
    · have := h.own.lt q; omega
  obtain ⟨k, hk⟩ : ∃ k : Nat, x.k = (k : Int) := ⟨x.k.toNat, by omega⟩
  obtain ⟨nh, eh⟩ : ∃ k : Nat, x.h = (k : Int) := ⟨x.h.toNat, by omega⟩
  obtain ⟨nr, er⟩ : ∃ k : Nat, x.r = (k : Int) := ⟨x.r.toNat, by omega⟩
  obtain ⟨nt, et⟩ : ∃ k : Nat, x.t = (k : Int) := ⟨x.t.toNat, by omega⟩
  obtain ⟨nf, ef⟩ : ∃ k : Nat, x.f = (k : Int) := ⟨x.f.toNat, by omega⟩
  have hB : voB x = leB k 1 ++ (varE nh ++ (varE nr ++ (x.id ++ (varE nt ++ varE nf)))) := by unfold voB; rw [hk, eh, er, et, ef]; simp only [Int.toNat_natCast]
  rw [hB]
  rw [hk] at c0 hk1 hk4
  rw [eh] at c1 hh
  rw [er] at c2 hr1 hr2
  rw [et] at c3 ht
  rw [ef] at c4 hf
  have hil := hok.1
  have l1 := leB_length k 1
  have l2 := varE_le nh
  have l3 := varE_le nr
  have l4 := varE_le nt
  generalize x.id = X at *
  generalize x.cs.toArray = C at *
  have HC := shutX (fun W B (L : Laid (w.alloc (.cells C 50)) p v B 0 W) => And.intro (L.cell hb c1) (And.intro (L.cell hb c2) (And.intro (L.cell hb c3) (And.intro (L.cell hb c4) (fun j u hu => L.cell hb (ci j u hu) : W.rangeAt w.heap.size 3 (X.map bv))))))
  have hw8 : IntKind.u8.wrap (k : Int) = (k : Int) := by rw [IntKind.wrap_u8]; omega
  have hwr : IntKind.u64.wrap (nr : Int) = (nr : Int) := by rw [IntKind.wrap_u64]; omega
  have S1 := step57 L0 k (by omega) (by omega)
  have S2 := fun W L => step62 (w0 := w.alloc (.cells C 50)) (W := W) (p := p) (v := v) (bs := bs ++ leB k 1) L nh (by omega) (by simp; omega)
  have S3 := fun W L => step62 (w0 := w.alloc (.cells C 50)) (W := W) (p := p) (v := v) (bs := bs ++ leB k 1 ++ varE nh) L nr (by omega) (by simp; omega)
  have S4 := fun W L (hx : W.rangeAt w.heap.size 3 (X.map bv)) => step71 (w0 := w.alloc (.cells C 50)) (W := W) (p := p) (v := v) (bs := bs ++ leB k 1 ++ varE nh ++ varE nr) L (.slice (some ⟨w.heap.size, 3, none⟩) 32 32) X (bs_range hx 32 hil (by omega)) (by simp; omega)
  have S5 := fun W L => step62 (w0 := w.alloc (.cells C 50)) (W := W) (p := p) (v := v) (bs := bs ++ leB k 1 ++ varE nh ++ varE nr ++ X) L nt (by omega) (by simp; omega)
  have S6 := fun W L => step62 (w0 := w.alloc (.cells C 50)) (W := W) (p := p) (v := v) (bs := bs ++ leB k 1 ++ varE nh ++ varE nr ++ X ++ varE nt) L nf (by omega) (by simp; omega)
  have HS := shutX (And.intro S2 (And.intro S3 (And.intro S4 (And.intro S5 S6))))
  have HN := layNone59
  clear S2 S3 S4 S5 S6 hh ht hf l1 l2 l3 l4 hle hB c1 c2 c3 c4 ci L0 h hil hok hr1 hr2 hk1 hk4 hk eh er et ef
  go_enter Tryz.func95, Tryz.ntmps95
  go_upto_region 2 with (go_at_call 132; refine S1.mono ?_; rintro e w1 ⟨rfl, L1⟩; obtain ⟨d1, -, -, -, -⟩ := HC.out w1 _ L1; clear S1)
  go_upto_region 3 with (go_at_call 135; refine (HS.out.1 _ L1).mono ?_; rintro e w2 ⟨rfl, L2⟩; obtain ⟨-, d2, -, -, -⟩ := HC.out w2 _ L2)
  go_upto_region 4 with (go_at_call 135; refine (HS.out.2.1 _ L2).mono ?_; rintro e w3 ⟨rfl, L3⟩)
  have S4 := HS.out.2.2.1 _ L3 (HC.out w3 _ L3).2.2.2.2
  go_upto_region 5 with (go_at_call 136; refine S4.mono ?_; rintro e w4 ⟨rfl, L4⟩; obtain ⟨-, -, d3, -, -⟩ := HC.out w4 _ L4)
  go_upto_region 6 with (go_at_call 135; refine (HS.out.2.2.2.1 _ L4).mono ?_; rintro e w5 ⟨rfl, L5⟩; obtain ⟨-, -, -, d4, -⟩ := HC.out w5 _ L5)
  go_upto_region 7 with (go_at_call 135; refine (HS.out.2.2.2.2 _ L5).mono ?_; rintro e w6 ⟨rfl, L6⟩)
  go_wp2_with (first | (go_at_call 134; refine (HN _ _ ⟨_, _, _, rfl⟩).mono ?_; rintro e w7 ⟨rfl, rfl⟩))
  go_end0
  refine ⟨rfl, ?_⟩
  have := L6.pre t0
  simpa [List.append_assoc] using this
end Go.Proofs.YtgbcdjjnpadddaaGreatDoor



/- What is signed of a vote: the program. -/
namespace Go.Proofs.YtgbcdjjnpadddaaGreatDoor
open Go.RowKit
set_option linter.unusedVariables false

theorem Row.rangeQ {w : World} {g : Nat} {cs : List Value} {t : TypeId} (r : Row w g cs.toArray t) : w.rangeAt g 0 cs := fun j u hu => by rw [Nat.zero_add]; exact r.cell j u (by simpa using hu)
theorem fieldE_zero {b : Bool} (h : fieldE b = 0) : b = true := by cases b <;> simp_all [fieldE]
theorem plainE_kind {x : Vt} (h : plainE x = 0) : 1 ≤ x.k ∧ x.k ≤ 2 ∧ 0 ≤ x.r ∧ x.r ≤ 65535 := by
  unfold plainE at h
  by_cases h1 : x.k = 1
  · rw [if_pos h1] at h
    have := fieldE_zero h
    simp [rB] at this
    omega
  · rw [if_neg h1] at h
    by_cases h2 : x.k = 2
    · rw [if_pos h2] at h
      have := fieldE_zero h
      simp [rB] at this
      omega
    · rw [if_neg h2] at h; cases h
/-- A chain's name and a transaction. -/
def stCv (ch : ByteArray) (x : Vt) : List Value := .string ch :: x.cs
def plainSv (ch : ByteArray) (x : Vt) : Int := if cB ch then plainE x else 41
theorem size72 : (Tryz.prog.info? 193).map (·.size) = some 54 := by kernel_rfl
theorem Row.stv {w : World} {g : Nat} {ch : ByteArray} {x : Vt} (r : Row w g (stCv ch x).toArray 193) : w.cell? ⟨g, 0, none⟩ = some (.string ch) ∧ w.rangeAt g 1 x.cs ∧ w.rangeAt g 0 (stCv ch x) := by
  have h0 : w.rangeAt g 0 (stCv ch x) := fun j u hu => by rw [Nat.zero_add]; exact r.cell j u (by simpa using hu)
  exact ⟨h0 0 _ rfl, fun j u hu => by have := h0 (j + 1) u hu; rwa [Nat.zero_add, Nat.add_comm] at this, h0⟩
theorem stCv_len {ch : ByteArray} {x : Vt} (h : x.fits) : (stCv ch x).length = 54 := by simp [stCv, Vt.len h.1]
set_option maxRecDepth 100000 in
set_option maxHeartbeats 2000000 in
theorem plainSt64 (w : World) (ch : ByteArray) (x : Vt) (ho : x.fits) : Calls Tryz.prog 129 #[.agg (stCv ch x).toArray, .func (.func 44) #[] #[]] w fun e w' => e = .returned (.int .i64 (plainSv ch x)) ∧ Turn no w w' := by
  obtain ⟨c0, cr, _⟩ := (Row.new w (stCv ch x).toArray 193).stv
  have hl : (Tryz.prog.info? 50).map (·.size) = some x.cs.length := by rw [Vt.len ho.1]; exact qsize29
  have P := fun W => plain9 W x ho.1
  have hC := chain109
  unfold plainSv
  generalize x.cs = D at *
  generalize plainE x = pt at *
  generalize (stCv ch x).toArray = C at *
  have t0 : Turn no w (w.alloc (.cells C 193)) := (Turn.refl no w).alloc _
  cases hc : cB ch
  · go_enter Tryz.func129, Tryz.ntmps129
    go_wp2_with (go_at_call 155; refine (hC _ _).mono ?_; rintro e w1 ⟨rfl, rfl⟩; rw [hc])
    go_ret
    exact ⟨rfl, t0⟩
  · go_enter Tryz.func129, Tryz.ntmps129
    go_wp2_with (first | (go_at_call 155; refine (hC _ _).mono ?_; rintro e w1 ⟨rfl, rfl⟩; rw [hc]) | (guard_target =~ wpList _ _ _ ({ dst := _, op := Op.load 50 _, .. } :: _) _ _; refine wpList_load_mid rfl 50 (.tmp 10) rfl w.heap.size 1 rfl D _ cr Tryz.underlying50 rfl hl ?_) | (go_at_call 44; refine (P _).mono ?_; rintro e w2 ⟨rfl, t2⟩))
    go_ret
    exact ⟨rfl, t0.then_no t2⟩
set_option maxRecDepth 100000 in
set_option maxHeartbeats 2000000 in
theorem clo63 (w : World) (ch : ByteArray) (x : Vt) (ho : x.fits) (b : Nat) (hb : w.cell? ⟨b, 0, none⟩ = some (.func (.func 44) #[] #[])) : Calls Tryz.prog 128 #[.agg (stCv ch x).toArray, .pointer (some ⟨b, 0, none⟩)] w fun e w' => e = .returned (.int .i64 (plainSv ch x)) ∧ Turn no w w' := by
  obtain ⟨_, _, cr⟩ := (Row.new w (stCv ch x).toArray 193).stv
  have hl : (Tryz.prog.info? 193).map (·.size) = some (stCv ch x).length := by rw [stCv_len ho]; exact size72
  have P := fun W => plainSt64 W ch x ho
  generalize plainSv ch x = pt at *
  generalize stCv ch x = D at *
  have t0 : Turn no w (w.alloc (.cells D.toArray 193)) := (Turn.refl no w).alloc _
  have hb' := t0.keep hb (fun q => q)
  go_enter Tryz.func128, Tryz.ntmps128
  go_wp2_with (first | (guard_target =~ wpList _ _ _ ({ dst := _, op := Op.load 193 _, .. } :: _) _ _; refine wpList_load_mid rfl 193 (.tmp 2) rfl w.heap.size 0 rfl D _ cr Tryz.underlying193 rfl hl ?_) | (go_at_call 129; refine (P _).mono ?_; rintro e w2 ⟨rfl, t2⟩))
  go_ret
  exact ⟨rfl, t0.then_no t2⟩
/-- What is signed of it. -/
def stBv (ch : ByteArray) (x : Vt) : List UInt8 := leB 86 1 ++ ((varE ch.size ++ ch.data.toList) ++ voB x)
set_option maxRecDepth 100000 in
set_option maxHeartbeats 4000000 in
theorem clo66 (w : World) (p : Nat) (v : Value) (h : Wr w p v [] 0) (ch : ByteArray) (hch : ch.size ≤ 16) (x : Vt) (ho : x.fits) (hk1 : 1 ≤ x.k) (hk4 : x.k ≤ 2) (hr1 : 0 ≤ x.r) (hr2 : x.r ≤ 65535) (lb fb : Nat) (hl : w.cell? ⟨lb, 0, none⟩ = some (.int .u8 86)) (hf : w.cell? ⟨fb, 0, none⟩ = some (.func (.func 95) #[] #[])) (nl : ¬ wfoot p v lb) (nf : ¬ wfoot p v fb) :
    Calls Tryz.prog 131 #[.pointer (some ⟨p, 0, none⟩), .agg (stCv ch x).toArray, .pointer (some ⟨lb, 0, none⟩), .pointer (some ⟨fb, 0, none⟩)] w fun e w' => e = .returned (.tuple #[]) ∧ Laid w p v (stBv ch x) 0 w' := by
  obtain ⟨c0, cr, _⟩ := (Row.new w (stCv ch x).toArray 193).stv
  have hz : (Tryz.prog.info? 50).map (·.size) = some x.cs.length := by rw [Vt.len ho.1]; exact qsize29
  have t0 : Turn no w (w.alloc (.cells (stCv ch x).toArray 193)) := (Turn.refl no w).alloc _
  have hb : ¬ wfoot p v w.heap.size := by
    rintro (q | q)
    · have := h.lt; omega
    · have := h.own.lt q; omega
  have L0 := Laid.refl (h.turn_no t0)
  have hl' := t0.keep hl (fun q => q)
  have hf' := t0.keep hf (fun q => q)
  have hBe : stBv ch x = [] ++ leB 86 1 ++ (varE ch.size ++ ch.data.toList) ++ voB x := by simp [stBv, List.append_assoc]
  rw [hBe]
  have hve := varE_le ch.size
  have hds : ch.data.toList.length = ch.size := by rw [Array.length_toList]; rfl
  have S1 : Calls Tryz.prog 132 #[.pointer (some ⟨p, 0, none⟩), .int .u8 86] _ _ := step57 L0 86 (by omega) (by simp)
  have S2 := fun W L => step58 (w0 := w.alloc (.cells (stCv ch x).toArray 193)) (W := W) (p := p) (v := v) (bs := [] ++ leB 86 1) L ch (by simp [leB]; omega)
  have S3 : ∀ W, Laid (w.alloc (.cells (stCv ch x).toArray 193)) p v ([] ++ leB 86 1 ++ (varE ch.size ++ ch.data.toList)) 0 W → Calls Tryz.prog 95 #[.pointer (some ⟨p, 0, none⟩), .agg x.cs.toArray, .func (.func 134) #[] #[]] W fun e w' => e = .returned (.tuple #[]) ∧ Laid (w.alloc (.cells (stCv ch x).toArray 193)) p v ([] ++ leB 86 1 ++ (varE ch.size ++ ch.data.toList) ++ voB x) 0 w' := fun W L => by
    obtain ⟨v1, k1, k2, k3⟩ := L
    exact (layVote31 W p v1 _ k1 x ho hk1 hk4 hr1 hr2 (by simp [leB]; omega)).mono (fun e w' ⟨q1, q2⟩ => ⟨q1, Laid.trans k1 k2 k3 q2⟩)
  have HC := shutX (fun W B (L : Laid (w.alloc (.cells (stCv ch x).toArray 193)) p v B 0 W) => And.intro (L.cell hb c0) (And.intro (L.cell nf hf') (fun j u hu => L.cell hb (cr j u hu) : W.rangeAt w.heap.size 1 x.cs)))
  have HS := shutX (And.intro S2 S3)
  clear S2 S3 hBe hve hds h c0 cr hl hf hf' L0
  generalize x.cs = D at *
  generalize (stCv ch x).toArray = C at *
  go_enter Tryz.func131, Tryz.ntmps131
  go_upto_region 2 with (go_at_call 132; refine S1.mono ?_; rintro e w1 ⟨rfl, L1⟩; obtain ⟨d1, -, -⟩ := HC.out w1 _ L1; clear S1)
  go_upto_region 3 with (go_at_call 133; refine (HS.out.1 _ L1).mono ?_; rintro e w2 ⟨rfl, L2⟩; obtain ⟨-, d2, d3⟩ := HC.out w2 _ L2)
  go_wp2_with (first | (guard_target =~ wpList _ _ _ ({ dst := _, op := Op.load 50 _, .. } :: _) _ _; refine wpList_load_mid rfl 50 (.tmp 15) rfl w.heap.size 1 rfl D _ d3 Tryz.underlying50 rfl hz ?_) | (go_at_call 95; refine (HS.out.2 _ L2).mono ?_; rintro e w3 ⟨rfl, L3⟩))
  go_end0
  exact ⟨rfl, L3.pre t0⟩
theorem plainSv_zero {ch : ByteArray} {x : Vt} (h : plainSv ch x = 0) : ch.size ≤ 16 ∧ 1 ≤ x.k ∧ x.k ≤ 2 ∧ 0 ≤ x.r ∧ x.r ≤ 65535 := by
  unfold plainSv at h
  cases hc : cB ch
  · rw [hc] at h; cases h
  · rw [hc] at h
    have := plainE_kind h
    unfold cB at hc
    simp at hc
    omega
def sBv (ch : ByteArray) (x : Vt) : List UInt8 := if plainSv ch x = 0 then stBv ch x else []
set_option maxRecDepth 100000 in
set_option maxHeartbeats 4000000 in
theorem enc65 (w : World) (ch : ByteArray) (x : Vt) (ho : x.fits) (pb lb fb : Nat) (hp : w.cell? ⟨pb, 0, none⟩ = some (.func (.func 44) #[] #[])) (hl : w.cell? ⟨lb, 0, none⟩ = some (.int .u8 86)) (hf : w.cell? ⟨fb, 0, none⟩ = some (.func (.func 95) #[] #[])) :
    Calls Tryz.prog 130 #[.agg (stCv ch x).toArray, .func (.func 128) #[] #[.pointer (some ⟨pb, 0, none⟩)], .func (.func 131) #[] #[.pointer (some ⟨lb, 0, none⟩), .pointer (some ⟨fb, 0, none⟩)]] w (Told w (plainSv ch x) (sBv ch x)) := by
  obtain ⟨_, _, cr⟩ := (Row.new w (stCv ch x).toArray 193).stv
  have hz : (Tryz.prog.info? 193).map (·.size) = some (stCv ch x).length := by rw [stCv_len ho]; exact size72
  have t0 : Turn no w (w.alloc (.cells (stCv ch x).toArray 193)) := (Turn.refl no w).alloc _
  have C53 := clo63 _ ch x ho pb (t0.keep hp (fun q => q))
  have HR := shutX (fun W (t : Turn no (w.alloc (.cells (stCv ch x).toArray 193)) W) => (fun j u hu => t.keep (cr j u hu) (fun q => q) : W.rangeAt w.heap.size 0 (stCv ch x)))
  have hlt := World.block_lt_of_cell? w _ hl
  have hft := World.block_lt_of_cell? w _ hf
  unfold sBv
  by_cases he : plainSv ch x = 0
  · rw [if_pos he]
    obtain ⟨hch, hk1, hk4, hr1, hr2⟩ := plainSv_zero he
    rw [he] at C53 ⊢
    have C56 : ∀ W W1, Turn no (w.alloc (.cells (stCv ch x).toArray 193)) W → Wr W1 W.heap.size (.slice none 0 0) [] 0 → Turn no W W1 → Calls Tryz.prog 131 #[.pointer (some ⟨W.heap.size, 0, none⟩), .agg (stCv ch x).toArray, .pointer (some ⟨lb, 0, none⟩), .pointer (some ⟨fb, 0, none⟩)] W1 fun e w' => e = .returned (.tuple #[]) ∧ Laid W1 W.heap.size (.slice none 0 0) (stBv ch x) 0 w' := fun W W1 t h t1 =>
      clo66 W1 _ _ h ch hch x ho hk1 hk4 hr1 hr2 lb fb ((t0.then_no t).then_no t1 |>.keep hl (fun q => q)) ((t0.then_no t).then_no t1 |>.keep hf (fun q => q))
        (by have := (t0.then_no t).size
            rintro (q | q)
            · have : lb < w.heap.size := hlt; omega
            · cases q)
        (by have := (t0.then_no t).size
            rintro (q | q)
            · have : fb < w.heap.size := hft; omega
            · cases q)
    have hBl : (stBv ch x).length ≤ 140737488355328 := by
      have a1 := varE_le ch.size
      have a2 : ch.data.toList.length = ch.size := by rw [Array.length_toList]; rfl
      have b1 := varE_le x.h.toNat; have b2 := varE_le x.r.toNat; have b3 := varE_le x.t.toNat; have b4 := varE_le x.f.toNat; have b5 := ho.1.1
      simp only [stBv, voB, List.length_append, leB_length]
      omega
    have C111 := fun W p v h => out_made W p v (stBv ch x) h hBl
    have HH := shutX (And.intro C56 C111)
    clear C56 C111 hBl hch hk1 hk4 hr1 hr2 he hp hl hf hlt hft
    generalize stBv ch x = SB at *
    generalize stCv ch x = D at *
    go_enter Tryz.func130, Tryz.ntmps130
    go_upto_region 4 with (first | (guard_target =~ wpList _ _ _ ({ dst := _, op := Op.load 193 _, .. } :: _) _ _; refine wpList_load_mid rfl 193 (.tmp 3) rfl w.heap.size 0 rfl D _ cr Tryz.underlying193 rfl hz ?_) | (go_at_call 128; refine C53.mono ?_; rintro e w1 ⟨rfl, t1⟩))
    clear C53
    go_upto_region 5 with (go_at_call 156; refine (newWriter_any w1).mono ?_; rintro e w2 ⟨rfl, k2, t2⟩)
    have cr2 := HR.out w2 (t1.then_no t2)
    have C := HH.out.1 w1 w2 t1 k2 t2
    go_upto_region 6 with (first | (guard_target =~ wpList _ _ _ ({ dst := _, op := Op.load 193 _, .. } :: _) _ _; refine wpList_load_mid rfl 193 (.tmp 3) rfl w.heap.size 0 rfl D _ cr2 Tryz.underlying193 rfl hz ?_) | (go_at_call 131; refine C.mono ?_; rintro e w3 ⟨rfl, L3⟩))
    clear C
    obtain ⟨v3, k3, tt3, nn3⟩ := L3
    have C := HH.out.2 w3 _ _ k3
    have t3 : Turn no w1 w3 := t2.trans tt3 (fun i hi q => by
      rcases q with q | q
      · omega
      · cases q)
    go_wp2_with (go_at_call 157; refine C.mono ?_; rintro e w4 ⟨v4, rfl, o4, n4, t4⟩; obtain ⟨a4, l4, c4, rfl⟩ := o4.form)
    go_ret2
    have tA := (t0.then_no t1).then_no t3
    exact ⟨_, rfl, o4, fun g hg => Nat.le_trans tA.size (n4 g hg), tA.then_no t4⟩
  · rw [if_neg he]
    have he' : (plainSv ch x != 0) = true := by simpa using he
    generalize plainSv ch x = pe at *
    generalize stCv ch x = D at *
    go_enter Tryz.func130, Tryz.ntmps130
    go_wp2_with (first | (guard_target =~ wpList _ _ _ ({ dst := _, op := Op.load 193 _, .. } :: _) _ _; refine wpList_load_mid rfl 193 (.tmp 3) rfl w.heap.size 0 rfl D _ cr Tryz.underlying193 rfl hz ?_) | (go_at_call 128; refine C53.mono ?_; rintro e w1 ⟨rfl, t1⟩))
    go_ret2
    exact ⟨_, rfl, Own.nil _ _, fun g q => (by cases q), t0.then_no t1⟩
theorem built72 (ch : ByteArray) (B : List Value) (hb : B.length = 53) : Tryz.prog.built 193 [(0, .string ch), (1, .agg B.toArray)] = some (.string ch :: B).toArray := by
  obtain ⟨it, hit, z, hz, hzs⟩ : ∃ it, Tryz.prog.info? 193 = some it ∧ ∃ z, it.zero = some z ∧ z.cells.size = 1 + 53 := by
    have h : ((Tryz.prog.info? 193).bind (·.zero)).map (fun z => z.cells.size) = some (1 + 53) := by kernel_rfl
    cases hq : Tryz.prog.info? 193 with
    | none => rw [hq] at h; cases h
    | some it =>
      rw [hq] at h
      cases hz : it.zero with
      | none => simp [hz] at h
      | some z => simp [hz] at h; exact ⟨it, rfl, z, hz, h⟩
  obtain ⟨fs, hu, pl, hp, h0, h1⟩ : ∃ fs, Tryz.prog.underlying 193 = some (.struct fs) ∧ ∃ pl, fs.toList.mapM (fun f => (Tryz.prog.info? f.type).map fun i => (f.offset, i.size)) = some pl ∧ pl.toArray[0]? = some (0, 1) ∧ pl.toArray[1]? = some (1, 53) := by
    refine ⟨Tryz.prog.fieldsOf 193, by kernel_rfl, [(0, 1), (1, 53)], by kernel_rfl, rfl, rfl⟩
  unfold Program.built
  simp only [hit, hu, hz, hp]
  have := fill_gen z.cells (.string ch) (.agg B.toArray) 1 53 hzs rfl (by simpa [Value.cells] using hb) _ h0 h1
  rw [this]
  simp [Value.cells]
set_option maxRecDepth 100000 in
set_option maxHeartbeats 4000000 in
theorem encSt29 (w : World) (ch : ByteArray) (x : Vt) (ho : x.fits) : Calls Tryz.prog 94 #[.int .u8 86, .agg (stCv ch x).toArray, .func (.func 44) #[] #[], .func (.func 95) #[] #[]] w (Told w (plainSv ch x) (sBv ch x)) := by
  have hz : (Tryz.prog.info? 193).map (·.size) = some (stCv ch x).length := by rw [stCv_len ho]; exact size72
  obtain ⟨w4, hw4⟩ : ∃ W, (((w.alloc (.cells #[.int .u8 86] 5)).alloc (.cells (stCv ch x).toArray 193)).alloc (.cells #[.func (.func 44) #[] #[]] 121)).alloc (.cells #[.func (.func 95) #[] #[]] 194) = W := ⟨_, rfl⟩
  have r1 : Row w4 w.heap.size #[.int .u8 86] 5 := by rw [← hw4]; exact ((((Row.new w _ 5).alloc _).alloc _).alloc _)
  have r2 : Row w4 (w.heap.size + 1) (stCv ch x).toArray 193 := by rw [← hw4]; exact ((Row.newAt _ _ 193 _ (by simp)).alloc _).alloc _
  have r3 : Row w4 (w.heap.size + 2) #[.func (.func 44) #[] #[]] 121 := by rw [← hw4]; exact (Row.newAt _ _ 121 _ (by simp)).alloc _
  have r4 : Row w4 (w.heap.size + 3) #[.func (.func 95) #[] #[]] 194 := by rw [← hw4]; exact Row.newAt _ _ 194 _ (by simp)
  have t4 : Turn no w w4 := by rw [← hw4]; exact ((((Turn.refl no w).alloc _).alloc _).alloc _).alloc _
  obtain ⟨_, _, cr⟩ := r2.stv
  have C := enc65 w4 ch x ho (w.heap.size + 2) w.heap.size (w.heap.size + 3) (r3.cell 0 _ rfl) (r1.cell 0 _ rfl) (r4.cell 0 _ rfl)
  clear r1 r2 r3 r4
  generalize plainSv ch x = pe at *
  generalize sBv ch x = SB at *
  generalize stCv ch x = D at *
  go_enter Tryz.func94, Tryz.ntmps94
  go_upto_region 1 with fail
  try rw [hw4]
  go_wp2_with (first | (guard_target =~ wpList _ _ _ ({ dst := _, op := Op.load 193 _, .. } :: _) _ _; refine wpList_load_mid rfl 193 (.tmp 5) rfl (w.heap.size + 1) 0 rfl D _ cr Tryz.underlying193 rfl hz ?_) | (go_at_call 130; refine C.mono ?_; rintro e w5 ⟨v5, rfl, o5, n5, t5⟩; obtain ⟨a5, l5, c5, rfl⟩ := o5.form))
  go_ret2
  exact ⟨_, rfl, o5, fun g hg => Nat.le_trans t4.size (n5 g hg), t4.then_no t5⟩
set_option maxRecDepth 100000 in
set_option maxHeartbeats 4000000 in
theorem voteBytes8 (w : World) (ch : ByteArray) (x : Vt) (ho : x.fits) : Calls Tryz.prog 67 #[.string ch, .agg x.cs.toArray] w (Told w (plainSv ch x) (sBv ch x)) := by
  have hz : (Tryz.prog.info? 50).map (·.size) = some x.cs.length := by rw [Vt.len ho.1]; exact qsize29
  have cr := Row.rangeQ (Row.new w x.cs.toArray 50)
  have t0 : Turn no w (w.alloc (.cells x.cs.toArray 50)) := (Turn.refl no w).alloc _
  have hb := built72 ch x.cs (Vt.len ho.1)
  have C := encSt29 (w.alloc (.cells x.cs.toArray 50)) ch x ho
  unfold stCv at C
  generalize plainSv ch x = pe at *
  generalize sBv ch x = SB at *
  generalize x.cs = D at *
  go_enter Tryz.func67, Tryz.ntmps67
  go_wp2_with (first | (guard_target =~ wpList _ _ _ ({ dst := _, op := Op.load 50 _, .. } :: _) _ _; refine wpList_load_mid rfl 50 (.tmp 3) rfl w.heap.size 0 rfl D _ cr Tryz.underlying50 rfl hz ?_) | (guard_target =~ wpList _ _ _ ({ dst := _, op := Op.build 193 _, .. } :: _) _ _; refine wpList_build_as rfl 193 0 1 (.tmp 6) (.tmp 7) rfl (.string ch) (.agg D.toArray) rfl rfl _ hb ?_) | (go_at_call 94; refine C.mono ?_; rintro e w5 ⟨v5, rfl, o5, n5, t5⟩; obtain ⟨a5, l5, c5, rfl⟩ := o5.form))
  go_ret2
  exact ⟨_, rfl, o5, fun g hg => Nat.le_trans t0.size (n5 g hg), t0.then_no t5⟩
end Go.Proofs.YtgbcdjjnpadddaaGreatDoor


