/- The walk of SealLimits. -/
import Derived.Test.YtnlcngcilojnkaaDoorL3
import Derived.Test.YtnlcngcilojnkaaDoorT1
import Derived.Test.YtnlcngcilojnkaaDoorTurnsW
import Derived.Test.YtnlcngcilojnkaaDoorS9
import Derived.Deep.CutRange
namespace Go.Proofs.YtnlcngcilojnkaaDoor
open Go.RowKit Go.Maps Go.MuLone
set_option linter.unusedVariables false

structure Shut (p : Prop) : Prop where
  out : p
theorem shutX {p : Prop} (h : p) : Shut p := ⟨h⟩
/-- No seal. -/
def Z16 : Array Value := #[.int .u8 0, .int .u8 0, .int .u8 0, .int .u8 0, .int .u8 0, .int .u8 0, .int .u8 0, .int .u8 0, .int .u8 0, .int .u8 0, .int .u8 0, .int .u8 0, .int .u8 0, .int .u8 0, .int .u8 0, .int .u8 0]
def zz16 : List UInt8 := List.replicate 16 0
theorem Z16_eq : Z16 = (zz16.map bv).toArray := by kernel_rfl
theorem built33 : Tryd.prog.built 33 [] = some Z16 := by kernel_rfl
theorem size33z : (Tryd.prog.info? 33).map (·.size) = some Z16.size := by kernel_rfl
theorem one33 : Z16.all (·.oneCell') = true := by kernel_rfl
section
variable {P : Program} {ops : Array Oper} {rest : List Oper} {o : Oper} {a : Act} {w : World} {Q : Exit → Act → World → Prop}
theorem wpList_build_noneX (hg : o.guard = none) (t : TypeId) (ho : o.op = .build t #[]) (cells : Array Value) (hf : P.built t [] = some cells) (h : wpList P ops Q rest (a.put o.dst (.agg cells)) w) : wpList P ops Q (o :: rest) a w := by
  have e : ((#[] : Array (Nat × Operand)).map fun (i, x) => (i, a.eval x)).toList = [] := by simp
  exact wpList_build hg t _ ho (by rw [e, hf]; rfl) (by rw [e, hf]; exact h)
theorem wpList_store_anyX (hgd : o.guard = none) (hd : o.dst = none) (ty : TypeId) (x y : Operand) (ho : o.op = .store ty x y)
    (g : Nat) (cells : Array Value) (hx : a.eval x = .pointer (some ⟨g, 0, none⟩)) (hy : a.eval y = .agg cells)
    (t : TypeId) (old : Array Value) (hg : Row w g old t) (hi : (P.info? ty).map (·.size) = some cells.size)
    (hold : old.size = cells.size) (h1 : cells.all (·.oneCell') = true)
    (h : ∀ w', Row w' g cells t → Turn (fun k => k = g) w w' → wpList P ops Q rest a w') : wpList P ops Q (o :: rest) a w :=
  wpList_store_row hgd ty x y ho g cells hx hy t old hg hi hold h1 (by rw [hd]; exact h _ (setRow_heap w g old cells t _ hg) ((Turn.refl _ w).setRow g cells (fun _ => rfl)))
end
theorem results_rowX {P : Program} {fn : Func} {p u : Tmp} {ty : TypeId} (h : fn.results = #[.cell p ty, .tmp u]) (tmps : Array Value) (w : World) (g : Nat) (t : TypeId) (cs : Array Value) (d : TypeDesc)
    (hp : tmps.getD p undef = .pointer (some ⟨g, 0, none⟩)) (hg : Row w g cs t)
    (hu : P.underlying ty = some d) (hd : (match d with | .struct _ | .array _ _ => true | _ => false) = true) (hi : (P.info? ty).map (·.size) = some cs.size) :
    (results fn tmps).run P w = .ok (.tuple #[.agg cs, tmps.getD u undef]) w := by
  rw [results_cell_tmp h]
  simp [hp, asAddr, run_loadVar_row w g t ty cs (0, 0) d hg hu hd hi]
set_option maxRecDepth 100000 in
theorem sign12_big (w : World) (q p : Nat) (a : UInt64) (va : Value) (bs : List UInt8) (hq : Sg w q p a) (hp0 : w.cell? ⟨p, 0, none⟩ = some (.pointer (some ⟨p, 0, none⟩))) (hb : Bs w va bs) (hlen : 1048576 < bs.length) :
    Calls Tryd.prog 12 #[.pointer (some ⟨q, 0, none⟩), va] w fun e w' => e = .returned (.tuple #[.agg Z16, .int .i64 4]) ∧ Turn no w w' := by
  obtain ⟨va', vc, rfl⟩ := hb.slice
  obtain ⟨w0, hw0⟩ : ∃ w0, w.alloc (.cells #[.int .u8 0, .int .u8 0, .int .u8 0, .int .u8 0, .int .u8 0, .int .u8 0, .int .u8 0, .int .u8 0, .int .u8 0, .int .u8 0, .int .u8 0, .int .u8 0, .int .u8 0, .int .u8 0, .int .u8 0, .int .u8 0] 33) = w0 := ⟨_, rfl⟩
  have T0 : Turn no w w0 := by rw [← hw0]; exact (Turn.refl no w).alloc _
  have RZ : Row w0 w.heap.size Z16 33 := by rw [← hw0]; exact Row.new w _ 33
  have hm29 := made29 w0 q ((Row.turn hq T0 (fun q => q)).cell 0 _ rfl)
  have hm25 := made25 w0 p (T0.keep hp0 (fun q => q))
  have c1 : w0.cell? ⟨q, 1, none⟩ = some (.pointer (some ⟨p, 0, none⟩)) := (Row.turn hq T0 (fun q => q)).cell 1 _ rfl
  have hle' : (1048576 : Int) < (bs.length : Int) := by omega
  have b31 := built33
  have s31 := size33z
  have o31 := one33
  have HT0 := shutX T0
  obtain ⟨Z, hZ⟩ : ∃ Z, Z16 = Z := ⟨_, rfl⟩
  rw [hZ] at RZ b31 s31 o31 ⊢
  clear hZ T0 hb hq hp0 hlen
  go_enter Tryd.func12, Tryd.ntmps12
  go_upto_region 1 with fail
  try rw [hw0]
  clear hw0
  go_wp2_with (first | (go_at_call 29; refine hm29.mono ?_; rintro e w1 ⟨rfl, e1⟩; subst e1) | (go_at_call 25; refine hm25.mono ?_; rintro e w1 ⟨rfl, e1⟩; subst e1) | (refine wpList_build_noneX rfl 33 rfl Z b31 ?_) | (refine wpList_store_anyX rfl rfl 33 (.tmp 4) (.tmp 21) rfl w.heap.size Z rfl rfl 33 Z RZ s31 rfl o31 ?_; intro w2 R2 T2; have HT2 := shutX T2; clear T2 RZ))
  refine ⟨rfl, _, results_rowX (g := w.heap.size) (cs := Z) (t := 33) rfl _ _ _ rfl R2 Tryd.underlying33 rfl s31, rfl, ?_⟩
  exact HT0.out.trans HT2.out (fun k hk q => by have q : k = w.heap.size := q; omega)

/-- So many zeros; what was signed behind k rounds. -/
def zs (n : Nat) : List UInt8 := List.replicate n 0
theorem zs_len (n : Nat) : (zs n).length = n := by simp [zs]
theorem zs_ne {m n : Nat} (h : m ≠ n) : zs m ≠ zs n := fun e => h (by have := congrArg List.length e; rwa [zs_len, zs_len] at this)
def recs (k : Nat) : List Rec := (List.range k).map fun i => ((7 : UInt64), zs (1048576 - i))
theorem recs_mem (k n : Nat) (h : 1048576 < n + k) (h2 : n ≤ 1048576) (h3 : k ≤ 2) : ((7 : UInt64), zs n) ∈ recs k := by
  unfold recs
  refine List.mem_map.2 ⟨1048576 - n, List.mem_range.2 (by omega), ?_⟩
  rw [show 1048576 - (1048576 - n) = n by omega]
theorem recs_not (k n : Nat) (h : n + k ≤ 1048576 ∨ 1048576 < n) (h3 : k ≤ 2) : ((7 : UInt64), zs n) ∉ recs k := by
  unfold recs
  intro hm
  obtain ⟨i, hi, e⟩ := List.mem_map.1 hm
  have hi := List.mem_range.1 hi
  have e2 : zs (1048576 - i) = zs n := congrArg Prod.snd e
  exact zs_ne (m := 1048576 - i) (n := n) (by omega) e2
theorem recs_next (k : Nat) (h : k ≤ 1) : noted (recs k) 7 (zs (1048576 - k)) = recs (k + 1) := by
  unfold noted
  rw [if_neg (recs_not k _ (.inl (by omega)) (by omega))]
  unfold recs
  rw [List.range_succ, List.map_append]
  rfl
theorem good_true (k n : Nat) (h : k ≤ 1) (hn : n = 1048576 - k) : (decide (((7 : UInt64), zs n) ∈ recs (k + 1)) && (sealB 7 (zs n) == sealB 7 (zs n))) = true := by
  have := recs_mem (k + 1) n (by omega) (by omega) (by omega)
  simp [this]
theorem more_false (k n : Nat) (h : k ≤ 1) (hn : n = 1048576 - k) : (decide (((7 : UInt64), zs (n + 1)) ∈ recs (k + 1)) && (sealB 7 (zs n) == sealB 7 (zs (n + 1)))) = false := by
  rcases (show k = 0 ∨ k = 1 by omega) with rfl | rfl
  · have := recs_not (0 + 1) (n + 1) (.inr (by omega)) (by omega)
    simp [this]
  · have hn : n = 1048575 := by omega
    subst hn
    have : (sealB 7 (zs 1048575) == sealB 7 (zs (1048575 + 1))) = false := beq_eq_false_iff_ne.2 seal_ne
    rw [this, Bool.and_false]
/-- The bytes in their block. -/
def ZR : Array Value := ((zs 1048577).map bv).toArray
theorem zs_bs {W : World} {g : Nat} (h : Row W g ZR 5) (n : Nat) (hn : n ≤ 1048577) : Bs W (.slice (some ⟨g, 0, none⟩) n 1048577) (zs n) :=
  Or.inr ⟨⟨g, 0, none⟩, 1048577, by rw [zs_len], by rw [zs_len]; exact hn, by simp [maxLen], fun j u hu => by
    have hj : j < n := by
      have := (List.getElem?_eq_some_iff.1 hu).1
      rwa [zs_len] at this
    have hu0 : u = 0 := by
      unfold zs at hu
      rw [List.getElem?_replicate, if_pos hj] at hu
      exact (Option.some.inj hu).symm
    rw [Addr.add_lit, Nat.zero_add]
    refine h.cell j _ ?_
    unfold ZR
    rw [List.getElem?_toArray, List.getElem?_map]
    unfold zs
    rw [List.getElem?_replicate, if_pos (by omega), hu0]
    rfl⟩
/-- What holds at the head of each round. -/
structure Lm (w wr : World) (p br bt q g g5 k : Nat) : Prop where
  bk : ∃ V, Bk wr p br bt V [7] (recs k) ∧ ∀ x, Fp p br bt V x → w.heap.size ≤ x
  sg : Sg wr q p 7
  row : Row wr g ZR 5
  box : ∃ X : List UInt8, X.length = 16 ∧ Row wr g5 (X.map bv).toArray 33
  turn : Turn no w wr
  g5 : w.heap.size ≤ g5
theorem wrap_i64x {x : Int} (h0 : -9223372036854775808 ≤ x) (h1 : x ≤ 9223372036854775807) : IntKind.i64.wrap x = x := by
  rw [IntKind.wrap_i64]
  omega
theorem neqZ (W : World) : (binOp .neq 33 (.agg Z16) (.agg Z16)).run Tryd.prog W = .ok (.bool false) W := by
  rw [Z16_eq, neq33 W zz16 zz16 (by kernel_rfl) (by kernel_rfl)]
  have : (!(zz16 == zz16)) = false := by decide
  rw [this]
set_option maxRecDepth 100000 in
set_option maxHeartbeats 8000000 in
theorem limits3 (w : World) (hl1 : Laid1 w) (h2 : 2 ≤ w.heap.size) : Calls Tryd.prog 3 #[] w fun e w' => e = .returned (.bool true) ∧ Turn no w w' := by
  have e7 : (((7 : UInt64).toNat : Nat) : Int) = 7 := rfl
  obtain ⟨i5, hi5, hz0, hzs, hzb⟩ := info_parts Tryd.info5
  have Hl1 := shutX hl1
  clear hl1
  go_enter Tryd.func3, Tryd.ntmps3
  go_wp2_with fail
  refine (bk_new _).mono ?_
  rintro e w1 ⟨p, br, bt, rfl, hp, hr, ht, B1, t1⟩
  have hen := B1.enter1 7 (by decide) (by simp) (by simp [maxLen])
  rw [e7] at hen
  have s1 := t1.size
  have hp1 : p < w1.heap.size := B1.lt (.inl rfl)
  have hr1 : br < w1.heap.size := B1.lt (.inr (.inl rfl))
  have ht1 : bt < w1.heap.size := B1.lt (.inr (.inr (.inl rfl)))
  go_wp2_with fail
  refine hen.mono ?_
  rintro e w2 ⟨q, rfl, hq, sg, B2, t2⟩
  have T2 : Turn no w w2 := (t1.of_no.trans t2 (fun _ _ q => q)).mono (S := fun k => k = p ∨ k = bt) (fun i hi q => by omega)
  have hq2 : q < w2.heap.size := Row.lt sg
  have Ht1 := shutX t1
  clear hen B1 t1 t2
  go_wp2_with fail
  refine (num11 _ _).mono ?_
  rintro e w3 ⟨rfl, he3⟩
  subst he3
  go_wp2_with (at_make; refine wpList_make_full _ rfl _ _ 31 rfl 0 5 i5 (.int .u8 0) 1 Tryd.underlying31 hi5 hz0 hzs _ _ _ _ 1048577 rfl rfl rfl rfl (by rw [hzb]; omega) (by simp only [maxLen]; omega) (Nat.zero_le _) ?_)
  intro w4 O4 gr4
  rw [made_zeros, show List.replicate 1048577 (0 : UInt8) = zs 1048577 from rfl] at O4
  have Rm4 : Row w4 w3.heap.size ZR 5 := own_row O4 (zs_len _)
  clear O4
  have t4 : Turn no w3 w4 := (Turn.refl no w3).grown gr4 (fun k q => by cases q)
  have T4 := T2.then_no t4
  have B4 := B2.turn_no t4
  have sg4 : Sg w4 q p 7 := Row.turn sg t4 (fun q => q)
  clear t4 gr4 B2 sg T2
  have s3 : w3.heap.size < w4.heap.size := Rm4.lt
  generalize hgm : w3.heap.size = gm at *
  have hp0 : w4.cell? ⟨p, 0, none⟩ = some (.pointer (some ⟨p, 0, none⟩)) := by obtain ⟨D1, D2, hr, _⟩ := B4.reg; exact hr.c0
  have csb := sign12_big w4 q p 7 (.slice (some ⟨gm, 0, none⟩) 1048577 1048577) (zs 1048577) sg4 hp0 (zs_bs Rm4 1048577 (by omega)) (by rw [zs_len]; omega)
  have hneq : ∀ W, (binOp .neq 33 (.agg Z16) (.agg #[.int .u8 0, .int .u8 0, .int .u8 0, .int .u8 0, .int .u8 0, .int .u8 0, .int .u8 0, .int .u8 0, .int .u8 0, .int .u8 0, .int .u8 0, .int .u8 0, .int .u8 0, .int .u8 0, .int .u8 0, .int .u8 0])).run Tryd.prog W = .ok (.bool false) W := neqZ
  have s33 := size33z
  have o33 := one33
  go_upto_region 7 with (first | (go_at_call 12; refine csb.mono ?_; rintro e w5 ⟨rfl, t5⟩) | (guard_target =~ wpList _ _ _ ({ dst := _, op := Op.store 33 _ _, .. } :: _) _ _; refine wpList_store_anyX rfl rfl 33 (.tmp 5) (.tmp 31) rfl w5.heap.size Z16 rfl rfl 33 Z16 (Row.new w5 _ 33) s33 rfl o33 ?_; intro w6 R6 T6))
  have t56 : Turn no w5 w6 := ((Turn.refl no w5).alloc _).trans T6 (fun k hk q => by have q : k = w5.heap.size := q; omega)
  have t46 := t5.then_no t56
  have T6' := T4.then_no t46
  have B6 := B4.turn_no t46
  have sg6 : Sg w6 q p 7 := Row.turn sg4 t46 (fun q => q)
  have Rm6 := Rm4.turn t46 (fun q => q)
  obtain ⟨g5, hg5⟩ : ∃ g, w5.heap.size = g := ⟨_, rfl⟩
  rw [hg5] at R6 ⊢
  have hg5w : w.heap.size ≤ g5 := by have := (T4.then_no t5).size; omega
  have hg54 : w4.heap.size ≤ g5 := by have := t5.size; omega
  clear csb t5 t56 T6 B4 sg4 Rm4 T4 hp0
  have cc := B6.count
  have hZe : Z16 = (zz16.map bv).toArray := Z16_eq
  have hZl : zz16.length = 16 := rfl
  have hno : (decide (((7 : UInt64), zs 1048577) ∈ ([] : List Rec)) && (zz16 == sealB 7 (zs 1048577))) = false := by simp
  have ck := fun W (b : Bk W p br bt (fun _ => .slice none 0 0) ([] ++ [7]) []) (t : Turn no w W) (r : Row W gm ZR 5) => b.check 7 (.slice (some ⟨gm, 0, none⟩) 1048577 1048577) (zs 1048577) (zs_bs r 1048577 (by omega)) (fun _ e => by have e : gm = p := (by simpa [Value.ownBlock] using e); omega) zz16 hZl (Hl1.out.turn t (fun q => q)) (by have := t.size; omega) (by omega) (fun q => by cases q)
  rw [hno, ← hZe, e7] at ck
  have Hck := shutX ck
  clear ck hno hZe hZl
  have HR := shutX (And.intro R6 (And.intro T6' (And.intro sg6 Rm6)))
  go_upto_region 9 with (first | (go_at_call 11; refine (num11 _ _).mono ?_; rintro e w7 ⟨rfl, he7⟩; subst he7) | (guard_target =~ wpList _ _ _ ({ dst := some 37, op := Op.load 33 _, .. } :: _) _ _; refine wpList_load_row_w (by rfl) 33 (.tmp 5) rfl g5 rfl 33 Z16 (0, 0) _ R6 Tryd.underlying33 rfl s33 ?_) | (go_at_call 13; refine cc.mono ?_; rintro e w8 ⟨rfl, B8, t8⟩; have R8 := Row.turn R6 t8 (fun q => by have q : g5 = p := q; omega); have T8 := (HR.out.2.1.of_no.trans t8 (fun _ _ q => q)).mono (S' := no) (fun i hi q => by have q : i = p := q; omega); have Rm8 := Row.turn HR.out.2.2.2 t8 (fun q => by have q : gm = p := q; omega); have ck := Hck.out _ B8 T8 Rm8) | (guard_target =~ wpList _ _ _ ({ dst := some 49, op := Op.load 33 _, .. } :: _) _ _; refine wpList_load_row_w (by rfl) 33 (.tmp 5) rfl g5 rfl 33 Z16 (0, 0) _ R8 Tryd.underlying33 rfl s33 ?_) | (go_at_call 14; refine ck.mono ?_; rintro e w9 ⟨rfl, B9, t9⟩))
  have hgp : gm ≠ p := by omega
  have hg5p : g5 ≠ p := by omega
  have hqp : q ≠ p := by omega
  have hpw := hp
  have L0 : Lm w w9 p br bt q gm g5 0 := ⟨⟨_, B9, fun x hx => by
      rcases hx with hx | hx | hx | ⟨a, hx⟩
      · omega
      · omega
      · omega
      · cases hx⟩, Row.turn (Row.turn HR.out.2.2.1 t8 (fun e => by have e : q = p := e; omega)) t9 (fun e => by have e : q = p := e; omega), Row.turn Rm8 t9 (fun e => by have e : gm = p := e; omega), ⟨zz16, rfl, by rw [← Z16_eq]; exact Row.turn R8 t9 (fun e => by have e : g5 = p := e; omega)⟩, (T8.of_no.trans t9 (fun _ _ q => q)).mono (S' := no) (fun i hi q => by have q : i = p := q; omega), hg5w⟩
  clear HR Hck ck cc B6 B8 B9 R6 R8 Rm6 Rm8 sg6 T6' T8 t8 t9 t46 hneq s3 hg54 hgm
  go_wp2_with fail
  go_loopw [6] (fun c wr => ∃ k n : Nat, k ≤ 2 ∧ n + k = 1048576 ∧ c = .int .i64 n ∧ Lm w wr p br bt q gm g5 k) (fun c _ => (intOf c).toNat)
  case atStart => exact ⟨0, 1048576, by omega, by omega, rfl, L0⟩
  case round =>
    clear L0
    obtain ⟨k, n, hk, hn, rfl, L⟩ := hrel
    by_cases hk1 : k ≤ 1
    · have hn1 : (1048575 : Int) ≤ (n : Int) := by omega
      have hnc : (n : Int) ≤ 1048577 := by omega
      have hnN : n ≤ 1048577 := by omega
      obtain ⟨m, hm⟩ : ∃ m : Nat, m = n + 1 := ⟨_, rfl⟩
      have hmI : (n : Int) + 1 = (m : Int) := by omega
      have hmc : (m : Int) ≤ 1048577 := by omega
      have hmN : m ≤ 1048577 := by omega
      obtain ⟨V, bk0, hF⟩ := L.bk
      obtain ⟨X0, hX0, RX0⟩ := L.box
      have hsz := L.turn.size
      have cs := bk0.sign q 7 L.sg (by simp) (.slice (some ⟨gm, 0, none⟩) n 1048577) (zs n) (zs_bs L.row n (by omega)) (fun _ g hg => by cases hg; exact bk0.away L.row (by decide) (by decide)) (Hl1.out.turn L.turn (fun q => q)) (by omega) (fun h => by have := hF 1 h; omega) (by rw [zs_len]; omega) (by simp [maxLen, recs]; omega) (by simp [recs]; omega)
      have hn2 : n = 1048576 - k := by omega
      rw [show noted (recs k) 7 (zs n) = recs (k + 1) by rw [hn2]; exact recs_next k hk1] at cs
      have hgt := good_true k n hk1 hn2
      have hmf := more_false k n hk1 hn2
      rw [← hm] at hmf
      have hlen : (recs (k + 1)).length = k + 1 := by simp [recs]
      obtain ⟨X, hXe⟩ : ∃ X, sealB 7 (zs n) = X := ⟨_, rfl⟩
      have hX : X.length = 16 := by rw [← hXe]; exact sealB_len _ _
      rw [show sealV 7 (zs n) = (X.map bv).toArray by rw [← hXe]; rfl] at cs
      rw [hXe] at hgt hmf
      have ckg : ∀ W V', Bk W p br bt V' [7] (recs (k + 1)) → Row W gm ZR 5 → Turn no w W → Calls Tryd.prog 14 #[.pointer (some ⟨p, 0, none⟩), .int .u64 7, .slice (some ⟨gm, 0, none⟩) n 1048577, .agg (X.map bv).toArray] W fun e w' => e = .returned (.bool true) ∧ Bk w' p br bt V' [7] (recs (k + 1)) ∧ Turn (fun k => k = p) W w' := fun W V' b r t => by
        have := b.check 7 (.slice (some ⟨gm, 0, none⟩) n 1048577) (zs n) (zs_bs r n (by omega)) (fun _ e => by have e : gm = p := (by simpa [Value.ownBlock] using e); omega) X hX (Hl1.out.turn t (fun q => q)) (by have := t.size; omega) (by omega) (fun _ => by rw [zs_len]; omega)
        rw [hXe, hgt] at this
        exact this
      have ckm : ∀ W V', Bk W p br bt V' [7] (recs (k + 1)) → Row W gm ZR 5 → Turn no w W → Calls Tryd.prog 14 #[.pointer (some ⟨p, 0, none⟩), .int .u64 7, .slice (some ⟨gm, 0, none⟩) m 1048577, .agg (X.map bv).toArray] W fun e w' => e = .returned (.bool false) ∧ Bk w' p br bt V' [7] (recs (k + 1)) ∧ Turn (fun k => k = p) W w' := fun W V' b r t => by
        have := b.check 7 (.slice (some ⟨gm, 0, none⟩) m 1048577) (zs m) (zs_bs r m (by omega)) (fun _ e => by have e : gm = p := (by simpa [Value.ownBlock] using e); omega) X hX (Hl1.out.turn t (fun q => q)) (by have := t.size; omega) (by omega) (fun _ => by rw [zs_len]; omega)
        rw [hmf] at this
        exact this
      have Hck := shutX (And.intro ckg ckm)
      have Hb := shutX (And.intro bk0 (And.intro hF L))
      have HX := shutX hX
      have s33 : (Tryd.prog.info? 33).map (·.size) = some (X.map bv).toArray.size := by rw [size33z]; simp [hX]; rfl
      have s33l : (Tryd.prog.info? 33).map (·.size) = some (X.map bv).length := by rw [size33z]; simp [hX]; rfl
      have o33 : (X.map bv).toArray.all (·.oneCell') = true := by simp [bv, Value.oneCell']
      have z33 : (X0.map bv).toArray.size = (X.map bv).toArray.size := by simp [hX, hX0]
      have Hm := shutX (And.intro hm hlen)
      have Hmk := shutX (And.intro hn hk)
      clear ckg ckm bk0 hF L hgt hmf hXe hX hX0 hn2 hm hlen
      go_upto_region 13 with (first | (go_at_call 12; refine cs.mono ?_; rintro e w10 ⟨rfl, V', B10, hf10, t10⟩; have RX10 := Row.turn RX0 t10 (Hb.out.1.away RX0 (by decide) (by decide))) | (guard_target =~ wpList _ _ _ ({ dst := _, op := Op.store 33 _ _, .. } :: _) _ _; refine wpList_store_anyX rfl rfl 33 (.tmp 5) (.tmp 62) rfl g5 (X.map bv).toArray rfl rfl 33 (X0.map bv).toArray RX10 s33 z33 o33 ?_; intro w11 R11 t11))
      have LL := Hb.out.2.2
      have B11 : Bk w11 p br bt V' [7] (recs (k + 1)) := B10.turn t11 (fun x hx e => by have e : x = g5 := e; subst e; exact B10.away RX10 (by decide) (by decide) hx)
      have nf : ∀ g c e f, wr.heap[g]? = some (.cells c e f) → e ≠ 57 → e ≠ 9 → ¬ Fp p br bt V g := fun g c e f h a b => Hb.out.1.away h a b
      have hgg5 : gm ≠ g5 := fun e => by subst e; exact absurd (tag_ne LL.row RX0) (by decide)
      have hqg5 : q ≠ g5 := fun e => by subst e; exact absurd (tag_ne LL.sg RX0) (by decide)
      have Rm11 : Row w11 gm ZR 5 := Row.turn (Row.turn LL.row t10 (nf _ _ _ _ LL.row (by decide) (by decide))) t11 hgg5
      have sg11 : Sg w11 q p 7 := Row.turn (Row.turn LL.sg t10 (nf _ _ _ _ LL.sg (by decide) (by decide))) t11 hqg5
      have T11 : Turn no w w11 := ((LL.turn.of_no.trans t10 (fun _ _ q => q)).mono (S' := no) (fun i hi q => by have := Hb.out.2.1 i q; omega)).of_no.trans t11 (fun _ _ q => q) |>.mono (S' := no) (fun i hi q => by have q : i = g5 := q; have := LL.g5; omega)
      have hF11 : ∀ x, Fp p br bt V' x → w.heap.size ≤ x := fun x hx => by
        rcases hx with hx | hx | hx | ⟨a, hx⟩
        · exact Hb.out.2.1 x (.inl hx)
        · exact Hb.out.2.1 x (.inr (.inl hx))
        · exact Hb.out.2.1 x (.inr (.inr (.inl hx)))
        · rcases hf10 a x hx with h | h
          · exact Hb.out.2.1 x (.inr (.inr (.inr ⟨a, h⟩)))
          · omega
      have rX : ∀ W, Turn (fun g => g = p) w11 W → W.rangeAt g5 0 (X.map bv) := fun W t j u hu => (Row.turn R11 t (fun q => by have q : g5 = p := q; omega)).cell (0 + j) _ (by rw [Nat.zero_add]; simpa using hu)
      have HI := shutX (And.intro Rm11 (And.intro sg11 (And.intro T11 (And.intro hF11 R11))))
      have dr : ∀ W : World, Turn no W W.drew := fun W => (Turn.refl no W).drew
      have cc := Hck.out.1 w11.drew V' (B11.turn_no (dr _)) (Row.turn Rm11 (dr _) (fun q => q)) (T11.then_no (dr _))
      clear cs t10 t11 hf10 B10 RX10 RX0 nf LL Rm11 sg11 T11 hF11 R11 s33 o33 z33
      refine wp_region_noPanic ?_
      refine wp_region_held_drew (S := fun W => Turn (fun g => g = p) w11 W) (by kernel_rfl) ((Turn.refl _ w11).drew) (fun hHeld => ?_)
      refine' wpAnyH_take (i := 0) (v := .pointer (some ⟨p, 0, none⟩)) rfl (by kernel_rfl) (by kernel_rfl) (by kernel_rfl) (fun _ _ _ h => h) (Or.inl ⟨by kernel_rfl, fun W hW => ?y1⟩) hHeld ?r1
      · go_simp
      refine' wpAnyH_take (i := 1) (v := .slice (some ⟨gm, 0, none⟩) 1048577 1048577) rfl (by kernel_rfl) (by kernel_rfl) (by kernel_rfl) (fun _ _ _ h => h) (Or.inl ⟨by kernel_rfl, fun W hW => ?y2⟩) hHeld ?r2
      · go_simp
      refine' wpAnyH_take (i := 2) (v := .int .i64 n) rfl (by kernel_rfl) (by kernel_rfl) (by kernel_rfl) (fun _ _ _ h => h) (Or.inl ⟨by kernel_rfl, fun W hW => ?y3⟩) hHeld ?r3
      · go_simp
      refine' wpAnyH_take (i := 3) (v := .slice (some ⟨gm, 0, none⟩) n 1048577) rfl (by kernel_rfl) (by kernel_rfl) (by kernel_rfl) (fun _ _ _ h => h) (Or.inl ⟨by kernel_rfl, fun W hW => ?y4⟩) hHeld ?r4
      · go_simp
      refine' wpAnyH_take (i := 4) (v := .agg (X.map bv).toArray) rfl (by kernel_rfl) (by kernel_rfl) (by kernel_rfl) (fun _ _ _ h => h) (yieldsIf_load_mid (by kernel_rfl) 33 (.tmp 5) rfl g5 0 (by kernel_rfl) (X.map bv) _ (fun W h => rX W h) Tryd.underlying33 rfl s33l) hHeld ?s0
      refine wpAnyH_ready (rs := [5]) (by kernel_rfl) (by simp) ?_
      refine AllReadyH.cons rfl (fun K hK => ?_) AllReadyH.nil
      go_simp
      refine cc.mono ?_
      rintro e w12 ⟨rfl, B12, t12⟩
      have t12' : Turn (fun g => g = p) w11 w12 := ((Turn.refl _ w11).drew).trans t12 (fun _ _ q => q)
      refine hK.out _ _ t12' (fun hHeld => ?_)
      clear hK cc
      refine' wpAnyH_take (i := 6) (v := .bool true) rfl (by kernel_rfl) (by kernel_rfl) (by kernel_rfl) (fun _ _ _ h => h) (Or.inl ⟨by kernel_rfl, fun W hW => ?y5⟩) hHeld ?r5
      · go_simp
      refine wpAnyH_done (by kernel_rfl) ?_ _
      refine NoPanic.normal ?_
      go_simp
      have rX2 : ∀ W, Turn (fun g => g = p) w12 W → W.rangeAt g5 0 (X.map bv) := fun W t => rX W (t12'.trans t (fun _ _ q => q))
      have Rm12 := Row.turn HI.out.1 t12' (fun q => by have q : gm = p := q; omega)
      have T12 : Turn no w w12 := (HI.out.2.2.1.of_no.trans t12' (fun _ _ q => q)).mono (S' := no) (fun i hi q => by have q : i = p := q; omega)
      have cc := Hck.out.2 w12.drew V' (B12.turn_no (dr _)) (Row.turn Rm12 (dr _) (fun q => q)) (T12.then_no (dr _))
      have HI2 := shutX (And.intro Rm12 T12)
      clear rX t12 Rm12 T12 B12 B11 hHeld
      go_wp2_with fail
      refine wp_region_noPanic ?_
      refine wp_region_held_drew (S := fun W => Turn (fun g => g = p) w12 W) (by kernel_rfl) ((Turn.refl _ w12).drew) (fun hHeld => ?_)
      refine' wpAnyH_take (i := 0) (v := .pointer (some ⟨p, 0, none⟩)) rfl (by kernel_rfl) (by kernel_rfl) (by kernel_rfl) (fun _ _ _ h => h) (Or.inl ⟨by kernel_rfl, fun W hW => ?y6⟩) hHeld ?r6
      · go_simp
      refine' wpAnyH_take (i := 1) (v := .slice (some ⟨gm, 0, none⟩) 1048577 1048577) rfl (by kernel_rfl) (by kernel_rfl) (by kernel_rfl) (fun _ _ _ h => h) (Or.inl ⟨by kernel_rfl, fun W hW => ?y7⟩) hHeld ?r7
      · go_simp
      refine' wpAnyH_take (i := 2) (v := .int .i64 n) rfl (by kernel_rfl) (by kernel_rfl) (by kernel_rfl) (fun _ _ _ h => h) (Or.inl ⟨by kernel_rfl, fun W hW => ?y8⟩) hHeld ?r8
      · go_simp
      refine' wpAnyH_take (i := 3) (v := .int .i64 m) rfl (by kernel_rfl) (by kernel_rfl) (by kernel_rfl) (fun _ _ _ h => h) (Or.inl ⟨by kernel_rfl, fun W hW => ?y9⟩) hHeld ?r9
      · have hmw : IntKind.i64.wrap (m : Int) = m := wrap_i64x (by omega) (by omega)
        go_simp
      refine' wpAnyH_take (i := 4) (v := .slice (some ⟨gm, 0, none⟩) m 1048577) rfl (by kernel_rfl) (by kernel_rfl) (by kernel_rfl) (fun _ _ _ h => h) (Or.inl ⟨by kernel_rfl, fun W hW => ?y10⟩) hHeld ?r10
      · go_simp
      refine' wpAnyH_take (i := 5) (v := .agg (X.map bv).toArray) rfl (by kernel_rfl) (by kernel_rfl) (by kernel_rfl) (fun _ _ _ h => h) (yieldsIf_load_mid (by kernel_rfl) 33 (.tmp 5) rfl g5 0 (by kernel_rfl) (X.map bv) _ (fun W h => rX2 W h) Tryd.underlying33 rfl s33l) hHeld ?s1
      refine wpAnyH_ready (rs := [6]) (by kernel_rfl) (by simp) ?_
      refine AllReadyH.cons rfl (fun K hK => ?_) AllReadyH.nil
      go_simp
      refine cc.mono ?_
      rintro e w13 ⟨rfl, B13, t13⟩
      have t13' : Turn (fun g => g = p) w12 w13 := ((Turn.refl _ w12).drew).trans t13 (fun _ _ q => q)
      refine hK.out _ _ t13' (fun hHeld => ?_)
      clear hK cc
      refine' wpAnyH_take (i := 7) (v := .bool false) rfl (by kernel_rfl) (by kernel_rfl) (by kernel_rfl) (fun _ _ _ h => h) (Or.inl ⟨by kernel_rfl, fun W hW => ?y11⟩) hHeld ?r11
      · go_simp
      refine wpAnyH_done (by kernel_rfl) ?_ _
      refine NoPanic.normal ?_
      go_simp
      have cc := B13.count
      rw [Hm.out.2] at cc
      have hcn : (1048577 : Int) - (n : Int) = ((k + 1 : Nat) : Int) := by have := Hmk.out.1; omega
      have t113 := t12'.trans t13' (fun _ _ q => q)
      have t113b := t13'
      clear rX2 t13 t12' t13' B13 hHeld hmI
      go_wp2_with (first | (go_at_call 11; refine (num11 _ _).mono ?_; rintro e w14 ⟨rfl, he⟩; subst he) | (go_at_call 13; refine cc.mono ?_; rintro e w15 ⟨rfl, B15, t15⟩))
      have T15 : Turn no w w15 := (HI2.out.2.of_no.trans (((Turn.refl _ w12)).trans (t113b.trans t15 (fun _ _ q => q)) (fun _ _ q => q)) (fun _ _ q => q)).mono (S' := no) (fun i hi q => by have q : i = p := q; omega)
      have t1115 := t113.trans t15 (fun _ _ q => q)
      refine ⟨⟨k + 1, n - 1, by omega, by have := Hmk.out.1; omega, by congr 1; omega, ⟨⟨V', B15, HI.out.2.2.2.1⟩, Row.turn HI.out.2.1 t1115 hqp, Row.turn HI.out.1 t1115 hgp, ⟨X, HX.out, Row.turn HI.out.2.2.2.2 t1115 hg5p⟩, T15, hg5w⟩⟩, ?_⟩
      simp only [intOf]
      omega
    · have hn0 : ¬ (1048575 : Int) ≤ (n : Int) := by omega
      have T := L.turn
      clear L
      go_wp2_with fail
      go_ret
      exact ⟨rfl, T⟩
end Go.Proofs.YtnlcngcilojnkaaDoor
