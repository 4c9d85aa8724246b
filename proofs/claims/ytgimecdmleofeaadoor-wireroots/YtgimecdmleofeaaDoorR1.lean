/- Marks and certificates laid down: layMark, layList, layCert. -/
import Derived.Test.YtgimecdmleofeaaDoorQa
import Derived.Test.YtgimecdmleofeaaDoorTk
namespace Go.Proofs.YtgimecdmleofeaaDoor
open Go.RowKit
set_option linter.unusedVariables false

/-- What a mark is laid down as. -/
def mkB (m : Mk) : List UInt8 := varE m.ix.toNat ++ (varE m.tm ++ m.se)
def mksB (l : List Mk) : List UInt8 := l.flatMap mkB
theorem mkB_le {m : Mk} (h : m.ok) : (mkB m).length ≤ 36 := by
  have := varE_le m.ix.toNat
  have := varE_le m.tm
  have := h.2.2
  simp [mkB]
  omega
theorem mksB_le : ∀ (l : List Mk), (∀ m ∈ l, m.ok) → (mksB l).length ≤ 36 * l.length
  | [], _ => by simp [mksB]
  | m :: r, h => by
    have h1 := mkB_le (h m (by simp))
    have h2 := mksB_le r (fun x hx => h x (by simp [hx]))
    simp only [mksB, List.flatMap_cons, List.length_append, List.length_cons] at *
    omega
theorem mksB_take {l : List Mk} {k : Nat} {m : Mk} (h : l[k]? = some m) : mksB (l.take (k + 1)) = mksB (l.take k) ++ mkB m := by
  unfold mksB
  rw [List.take_add_one, h]
  simp
set_option maxRecDepth 100000 in
set_option maxHeartbeats 4000000 in
theorem layMark69 (w : World) (p : Nat) (v : Value) (bs : List UInt8) (h : Wr w p v bs 0) (m : Mk) (hm : m.ok) (h0 : 0 ≤ m.ix) (h64 : m.ix < 64) (hle : bs.length + 1000 ≤ 140737488355328) :
    Calls Tryd.prog 69 #[.pointer (some ⟨p, 0, none⟩), .agg (mkL m).toArray] w fun e w' => e = .returned (.tuple #[]) ∧ Laid w p v (bs ++ mkB m) 0 w' := by
  have hR := Row.new w (mkL m).toArray 108
  have c0 := hR.cell 0 _ (show (mkL m).toArray[0]? = some (.int .i64 m.ix) by simp [mkL])
  have c1 := hR.cell 1 _ (show (mkL m).toArray[1]? = some (.int .u64 m.tm) by simp [mkL])
  have cse : (w.alloc (.cells (mkL m).toArray 108)).rangeAt w.heap.size 2 (m.se.map bv) := fun j u hu => by
    have := hR.cell (2 + j) u (by unfold mkL; rw [show 2 + j = j + 1 + 1 by omega]; simp only [List.getElem?_toArray, List.getElem?_cons_succ]; exact hu)
    simpa using this
  have t0 : Turn no w (w.alloc (.cells (mkL m).toArray 108)) := (Turn.refl no w).alloc _
  have L0 := Laid.refl (h.turn_no t0)
  have hb : ¬ wfoot p v w.heap.size := by
    rintro (q | q)
    · have := h.lt; omega
    · have := h.own.lt q; omega
  obtain ⟨hi, ht, hs⟩ := hm
  obtain ⟨k, hk⟩ : ∃ k : Nat, m.ix = (k : Int) := ⟨m.ix.toNat, by omega⟩
  have hB : mkB m = varE k ++ (varE m.tm ++ m.se) := by unfold mkB; rw [hk, Int.toNat_natCast]
  rw [hB]
  rw [hk] at c0 h0 h64
  have l1 := varE_le k
  have l2 := varE_le m.tm
  generalize m.tm = tm at *
  generalize m.se = E at *
  generalize (mkL m).toArray = C at *
  have HC := shutX (fun W B (L : Laid (w.alloc (.cells C 108)) p v B 0 W) => And.intro (L.cell hb c1) (fun j u hu => L.cell hb (cse j u hu) : W.rangeAt w.heap.size 2 (E.map bv)))
  have hw : IntKind.u64.wrap (k : Int) = (k : Int) := by rw [IntKind.wrap_u64]; omega
  have S1 := step62 L0 k (by omega) (by omega)
  have S2 := fun W L => step62 (w0 := w.alloc (.cells C 108)) (W := W) (p := p) (v := v) (bs := bs ++ varE k) L tm ht (by simp; omega)
  have S3 := fun W L (hx : W.rangeAt w.heap.size 2 (E.map bv)) => step71 (w0 := w.alloc (.cells C 108)) (W := W) (p := p) (v := v) (bs := bs ++ varE k ++ varE tm) L (.slice (some ⟨w.heap.size, 2, none⟩) 16 16) E (bs_range hx 16 hs (by omega)) (by simp; omega)
  have HS := shutX (And.intro S2 S3)
  clear S2 S3 cse hs ht l1 l2 hle hB c1 L0 h hk h0 h64 hi hR
  go_enter Tryd.func69, Tryd.ntmps69
  go_upto_region 2 with (go_at_call 63; refine S1.mono ?_; rintro e w1 ⟨rfl, L1⟩; obtain ⟨d1, -⟩ := HC.out w1 _ L1; clear S1)
  go_upto_region 3 with (go_at_call 63; refine (HS.out.1 _ L1).mono ?_; rintro e w2 ⟨rfl, L2⟩)
  have S3 := HS.out.2 _ L2 (HC.out w2 _ L2).2
  go_wp2_with (first | (go_at_call 56; refine S3.mono ?_; rintro e w3 ⟨rfl, L3⟩))
  go_end0
  refine ⟨rfl, ?_⟩
  have := L3.pre t0
  simpa [List.append_assoc] using this
theorem count97 (w : World) (p : Nat) (v : Value) (bs : List UInt8) (h : Wr w p v bs 0) (n : Nat) (hn : n ≤ 1000000) (hle : bs.length + 1000 ≤ 140737488355328) :
    Calls Tryd.prog 97 #[.pointer (some ⟨p, 0, none⟩), .int .i64 n] w fun e w' => e = .returned (.tuple #[]) ∧ Laid w p v (bs ++ varE n) 0 w' := by
  have hfault := h.fault
  have C := var_made w p v bs n (by omega) h (by omega)
  have hw : IntKind.u64.wrap (n : Int) = (n : Int) := by rw [IntKind.wrap_u64]; omega
  have h0 : ¬ (n : Int) < 0 := by omega
  go_enter Tryd.func97, Tryd.ntmps97
  go_wp2_with (first | (go_at_call 96; refine (fault_any _ _ _ hfault).mono ?_; rintro e w' ⟨rfl, rfl⟩) | (go_at_call 63; refine C.mono ?_; rintro e w1 ⟨rfl, L1⟩))
  go_end0
  exact ⟨rfl, L1⟩
/-- Marks lie apart from what a writer has made since. -/
theorem KsAt.far {w0 W W1 : World} {p : Nat} {v : Value} {a : Option Addr} {cap : Nat} {l : List Mk} (h : KsAt w0 a cap l) (t : Turn no w0 W) (t1 : Turn (wfoot p v) W W1) (hp : w0.heap.size ≤ p) (hv : ∀ g, v.ownBlock = some g → w0.heap.size ≤ g) : KsAt W1 a cap l :=
  ⟨h.le, h.cap, h.ok, fun j m hj => by
    obtain ⟨b, off, e, c⟩ := h.cells j m hj
    refine ⟨b, off, e, fun i u hi => ?_⟩
    have hc := c i u hi
    have hb : b < w0.heap.size := World.block_lt_of_cell? w0 _ hc
    exact t1.keep (t.keep hc (fun q => q)) (by
      rintro (q | q)
      · have q : b = p := q; omega
      · have := hv b q; omega)⟩
set_option maxRecDepth 100000 in
set_option maxHeartbeats 4000000 in
theorem layList68 (w0 W : World) (p : Nat) (v : Value) (bs : List UInt8) (a : Option Addr) (cap : Nat) (l : List Mk) (hK : KsAt w0 a cap l) (t : Turn no w0 W) (h : Wr W p v bs 0) (hp : w0.heap.size ≤ p) (hv : ∀ g, v.ownBlock = some g → w0.heap.size ≤ g)
    (hix : ∀ m ∈ l, 0 ≤ m.ix ∧ m.ix < 64) (hn : l.length ≤ 64) (hle : bs.length ≤ 1000) :
    Calls Tryd.prog 68 #[.pointer (some ⟨p, 0, none⟩), .slice a l.length cap, .func (.func 69) #[] #[]] W fun e w' => e = .returned (.tuple #[]) ∧ Laid W p v (bs ++ (varE l.length ++ mksB l)) 0 w' := by
  have hlen := mksB_le l hK.ok
  have hlt : ∀ k, (mksB (l.take k)).length ≤ 36 * 64 := fun k => by
    have := mksB_le (l.take k) (fun m hm => hK.ok m (List.mem_of_mem_take hm))
    have := List.length_take_le k l
    have : (l.take k).length ≤ l.length := by simp; omega
    omega
  obtain ⟨n, en⟩ : ∃ n, l.length = n := ⟨_, rfl⟩
  have C1 := count97 W p v bs h n (by omega) (by omega)
  rw [en] at hn hlen ⊢
  have v1 := varE_le n
  have HN := shutX en
  have HF := shutX (fun W1 B (L : Laid W p v B 0 W1) => hK.far t L.turn hp hv)
  have HX := shutX (And.intro hix (And.intro hK.ok hlt))
  have hz8 := zero108
  clear en hK t hp hv hix hlt hlen
  go_enter Tryd.func68, Tryd.ntmps68
  go_upto_region 1 with (go_at_call 97; refine C1.mono ?_; rintro e w1 ⟨rfl, L1⟩)
  clear C1
  go_wp2_with fail
  go_loopw [14] (fun c wr => ∃ (k : Nat), k ≤ n ∧ c = .int .i64 k ∧ Shut (Laid W p v (bs ++ varE n ++ mksB (l.take k)) 0 wr)) (fun c _ => n - (intOf c).toNat)
  case atStart => exact ⟨0, by omega, rfl, ⟨by simpa [mksB] using L1⟩⟩
  case round =>
    obtain ⟨k, hk, rfl, HI⟩ := hrel
    by_cases hlt : k < n
    · obtain ⟨m, hm⟩ : ∃ m, l[k]? = some m := ⟨l[k]'(by rw [HN.out]; exact hlt), List.getElem?_eq_getElem _⟩
      have hmm := List.mem_of_getElem? hm
      obtain ⟨b, off, rfl, hr⟩ := (HF.out wr _ HI.out).range k m hm
      have hmo := HX.out.2.1 m hmm
      have hs1 := size50 hmo
      have hs2 := size50A hmo
      have hs3 := one50 m
      have hs4 := z50 hmo
      have hlt' : (k : Int) < (n : Int) := by omega
      have hk1 : Hid (k + 1 ≤ n) := hlt
      have HE := shutX (mksB_take hm)
      obtain ⟨v1', W1, T1, N1⟩ := HI.out
      have hq := HX.out.2.2 k
      have C2 : ∀ w2, Turn (fun z => z = wr.heap.size) (wr.alloc (.cells Z50 108)) w2 → Calls Tryd.prog 69 #[.pointer (some ⟨p, 0, none⟩), .agg (mkL m).toArray] w2 fun e w' => e = .returned (.tuple #[]) ∧ Laid W p v (bs ++ varE n ++ mksB (l.take k) ++ mkB m) 0 w' := fun w2 t2 => by
        have tA : Turn (fun z => z = wr.heap.size) wr w2 := ((Turn.refl _ wr).alloc _).trans t2 (fun _ _ q => q)
        have W2 : Wr w2 p v1' (bs ++ varE n ++ mksB (l.take k)) 0 := W1.turn tA (fun z hz => by
          rintro rfl
          rcases hz with q | q
          · have := W1.lt; omega
          · have := W1.own.lt q; omega)
        have T2 : Turn (wfoot p v) W w2 := T1.trans tA (fun i hi q => by have := T1.size; omega)
        exact (layMark69 w2 p v1' _ W2 m hmo (HX.out.1 m hmm).1 (HX.out.1 m hmm).2 (by simp; omega)).mono (fun e w' ⟨q1, q2⟩ => ⟨q1, Laid.trans W2 T2 N1 q2⟩)
      have HC := shutX C2
      clear hm hmm C2 W1 T1 N1 hmo hq L1 h
      generalize mkL m = ms at *
      go_upto_region 4 with (first | (guard_target =~ wpList _ _ _ ({ dst := _, op := Op.load 108 _, .. } :: _) _ _; refine wpList_load_mid rfl 108 (.tmp 16) rfl b (off + k * 18) rfl ms _ hr Tryd.underlying108 rfl hs1 ?_) | (guard_target =~ wpList _ _ _ ({ dst := _, op := Op.store 108 _ _, .. } :: _) _ _; refine wpList_store_any rfl 108 (.tmp 7) (.tmp 17) rfl wr.heap.size ms.toArray rfl rfl 108 Z50 (Row.new wr Z50 108) hs2 hs4 hs3 ?_; intro w2 R1 t1))
      have cr := Row.rangeZ R1
      have C2 := HC.out w2 t1
      clear hr R1 t1 HC
      generalize hA : ms.toArray = A at *
      have HA := shutX hA
      clear hA
      go_wp2_with (first | (guard_target =~ wpList _ _ _ ({ dst := _, op := Op.load 108 _, .. } :: _) _ _; refine wpList_load_mid rfl 108 (.tmp 7) rfl wr.heap.size 0 rfl ms _ cr Tryd.underlying108 rfl hs1 ?_; rw [HA.out]) | (go_at_call 69; refine C2.mono ?_; rintro e w3 ⟨rfl, L3⟩; clear C2))
      go_roundw
      case rel => exact ⟨k + 1, hk1.out, by go_num, ⟨by rw [HE.out, ← List.append_assoc]; exact L3⟩⟩
      case measure => have := hk1.out; simp [intOf]; omega
    · obtain rfl : k = n := by omega
      have hlt' : ¬ (k : Int) < (k : Int) := by omega
      have L2 := HI.out
      rw [List.take_of_length_le (by rw [HN.out]; exact Nat.le_refl _)] at L2
      have HL := shutX L2
      clear L2 L1 HI HF HX
      go_wp2_with fail
      go_end0
      exact ⟨rfl, by simpa [List.append_assoc] using HL.out⟩
/-- What a certificate is laid down as. -/
def ctB (h : Nat) (r : Int) (id : List UInt8) (l : List Mk) : List UInt8 := varE h ++ (varE r.toNat ++ (id ++ (varE l.length ++ mksB l)))
set_option maxRecDepth 100000 in
set_option maxHeartbeats 4000000 in
theorem layCert29 (w0 W : World) (p : Nat) (v : Value) (bs : List UInt8) (h : Nat) (r : Int) (id : List UInt8) (hid : id.length = 32) (a : Option Addr) (cap : Nat) (l : List Mk) (hK : KsAt w0 a cap l) (t : Turn no w0 W) (hw : Wr W p v bs 0) (hp : w0.heap.size ≤ p) (hv : ∀ g, v.ownBlock = some g → w0.heap.size ≤ g)
    (hh : h < 18446744073709551616) (hr0 : 0 ≤ r) (hr1 : r ≤ 65535) (hix : ∀ m ∈ l, 0 ≤ m.ix ∧ m.ix < 64) (hn : l.length ≤ 64) (hle : bs.length ≤ 100) :
    Calls Tryd.prog 29 #[.pointer (some ⟨p, 0, none⟩), .agg (ctL h r id (.slice a l.length cap)).toArray] W fun e w' => e = .returned (.tuple #[]) ∧ Laid W p v (bs ++ ctB h r id l) 0 w' := by
  have hR := Row.new W (ctL h r id (.slice a l.length cap)).toArray 34
  have c0 := hR.cell 0 _ (ctL_0 h r id _)
  have c1 := hR.cell 1 _ (ctL_1 h r id _)
  have cid : (W.alloc (.cells (ctL h r id (.slice a l.length cap)).toArray 34)).rangeAt W.heap.size 2 (id.map bv) := fun j u hu => hR.cell (2 + j) _ (ctL_id h r id _ j u hu)
  have c34 := hR.cell 34 _ (ctL_34 h r id hid _)
  have t0 : Turn no W (W.alloc (.cells (ctL h r id (.slice a l.length cap)).toArray 34)) := (Turn.refl no W).alloc _
  have L0 := Laid.refl (hw.turn_no t0)
  have hb : ¬ wfoot p v W.heap.size := by
    rintro (q | q)
    · have := hw.lt; omega
    · have := hw.own.lt q; omega
  obtain ⟨k, rfl⟩ : ∃ k : Nat, r = (k : Int) := ⟨r.toNat, by omega⟩
  unfold ctB
  rw [Int.toNat_natCast]
  have l1 := varE_le h
  have l2 := varE_le k
  have hwk : IntKind.u64.wrap (k : Int) = (k : Int) := by rw [IntKind.wrap_u64]; omega
  generalize (ctL h k id (.slice a l.length cap)).toArray = C at *
  have S4 : ∀ W1, Laid (W.alloc (.cells C 34)) p v (bs ++ varE h ++ varE k ++ id) 0 W1 → Calls Tryd.prog 68 #[.pointer (some ⟨p, 0, none⟩), .slice a l.length cap, .func (.func 69) #[] #[]] W1 fun e w' => e = .returned (.tuple #[]) ∧ Laid (W.alloc (.cells C 34)) p v (bs ++ varE h ++ varE k ++ id ++ (varE l.length ++ mksB l)) 0 w' := fun W1 L => by
    obtain ⟨v1, k1, k2, k3⟩ := L
    have tt := t.then_no t0
    have T1 : Turn no w0 W1 := tt.trans k2 (fun i hi q => by
      rcases q with q | q
      · omega
      · have := hv i q; omega)
    refine (layList68 w0 W1 p v1 _ a cap l hK T1 k1 hp (fun g hg => ?_) hix hn (by simp; omega)).mono (fun e w' ⟨q1, q2⟩ => ⟨q1, Laid.trans k1 k2 k3 q2⟩)
    rcases k3 with q | ⟨g', q, hg'⟩
    · exact hv g (by rw [← q]; exact hg)
    · rw [q] at hg
      cases hg
      exact Nat.le_trans tt.size hg'
  have HC := shutX (fun W1 B (L : Laid (W.alloc (.cells C 34)) p v B 0 W1) => And.intro (L.cell hb c1) (And.intro (fun j u hu => L.cell hb (cid j u hu) : W1.rangeAt W.heap.size 2 (id.map bv)) (L.cell hb c34)))
  have S1 := step62 L0 h hh (by omega)
  have S2 := fun W1 L => step62 (w0 := W.alloc (.cells C 34)) (W := W1) (p := p) (v := v) (bs := bs ++ varE h) L k (by omega) (by simp; omega)
  have S3 := fun W1 L (hx : W1.rangeAt W.heap.size 2 (id.map bv)) => step71 (w0 := W.alloc (.cells C 34)) (W := W1) (p := p) (v := v) (bs := bs ++ varE h ++ varE k) L (.slice (some ⟨W.heap.size, 2, none⟩) 32 32) id (bs_range hx 32 hid (by omega)) (by simp; omega)
  have HS := shutX (And.intro S2 (And.intro S3 S4))
  clear S2 S3 S4 cid c34 c1 hid hK t hp hv hh hr0 hr1 hix hn hle L0 hw hR l1 l2
  go_enter Tryd.func29, Tryd.ntmps29
  go_upto_region 2 with (go_at_call 63; refine S1.mono ?_; rintro e w1 ⟨rfl, L1⟩; obtain ⟨d1, -, -⟩ := HC.out w1 _ L1; clear S1)
  go_upto_region 3 with (go_at_call 63; refine (HS.out.1 _ L1).mono ?_; rintro e w2 ⟨rfl, L2⟩)
  have S3 := HS.out.2.1 _ L2 (HC.out w2 _ L2).2.1
  go_upto_region 4 with (go_at_call 56; refine S3.mono ?_; rintro e w3 ⟨rfl, L3⟩)
  clear S3
  have d3 := (HC.out w3 _ L3).2.2
  have S4 := HS.out.2.2 _ L3
  go_wp2_with (first | (go_at_call 68; refine S4.mono ?_; rintro e w4 ⟨rfl, L4⟩))
  go_end0
  refine ⟨rfl, ?_⟩
  have := L4.pre t0
  simpa [List.append_assoc] using this
end Go.Proofs.YtgimecdmleofeaaDoor
