/- Sign of the document's signer; messages too long, both sides. -/
import Derived.Test.YtgbcdjjnpadddaaGreatDoorAb
import Derived.Deep.RegionHeld3
import Derived.Laws.ResultCell
import Derived.Laws.Rows
import Derived.Lib.ConvBytes
import Derived.Deep.CutRange
namespace Go.Proofs.YtgbcdjjnpadddaaGreatDoor
open Go.RowKit Go.Maps Go.MuLone
set_option linter.unusedVariables false

/-- No seal. -/
theorem shut1 {p : Prop} (h : p) : Shut p := h
theorem setRow_turn {w : World} (g : Nat) (cs : Array Value) : Turn (fun k => k = g) w (w.setRow g cs) :=
  ⟨rfl, rfl, rfl, by simp [World.setRow], fun k _ hk => setRow_other w g k cs hk⟩
def Z16 : Array Value := #[.int .u8 0, .int .u8 0, .int .u8 0, .int .u8 0, .int .u8 0, .int .u8 0, .int .u8 0, .int .u8 0, .int .u8 0, .int .u8 0, .int .u8 0, .int .u8 0, .int .u8 0, .int .u8 0, .int .u8 0, .int .u8 0]
theorem built31 : Tryz.prog.built 48 [] = some Z16 := by kernel_rfl
theorem size31z : (Tryz.prog.info? 48).map (·.size) = some Z16.size := by kernel_rfl
theorem one31 : Z16.all (·.oneCell') = true := by kernel_rfl
section
variable {P : Program} {ops : Array Oper} {rest : List Oper} {o : Oper} {a : Act} {w : World} {Q : Exit → Act → World → Prop}
theorem wpList_build_noneX (hg : o.guard = none) (t : TypeId) (ho : o.op = .build t #[]) (cells : Array Value) (hf : P.built t [] = some cells) (h : wpList P ops Q rest (a.put o.dst (.agg cells)) w) : wpList P ops Q (o :: rest) a w := by
  have e : ((#[] : Array (Nat × Operand)).map fun (i, x) => (i, a.eval x)).toList = [] := by simp
  exact wpList_build hg t _ ho (by rw [e, hf]; rfl) (by rw [e, hf]; exact h)
theorem wpList_store_anyX (hgd : o.guard = none) (hd : o.dst = none) (ty : TypeId) (x y : Operand) (ho : o.op = .store ty x y)
    (g : Nat) (cells : Array Value) (hx : a.eval x = .pointer (some ⟨g, 0, none⟩)) (hy : a.eval y = .agg cells)
    (t : TypeId) (old : Array Value) (hg : Row w g old t) (hi : (P.info? ty).map (·.size) = some cells.size)
    (hold : old.size = cells.size) (h1 : cells.all (·.oneCell') = true)
    (h : ∀ w', Row w' g cells t → Turn (fun k => k = g) w w' → wpList P ops Q rest a w') : wpList P ops Q (o :: rest) a w :=
  wpList_store_row hgd ty x y ho g cells hx hy t old hg hi hold h1 (by rw [hd]; exact h _ (setRow_heap w g old cells t _ hg) (setRow_turn g cells))
end
theorem results_rowX {P : Program} {fn : Func} {p u : Tmp} {ty : TypeId} (h : fn.results = #[.cell p ty, .tmp u]) (tmps : Array Value) (w : World) (g : Nat) (t : TypeId) (cs : Array Value) (d : TypeDesc)
    (hp : tmps.getD p undef = .pointer (some ⟨g, 0, none⟩)) (hg : Row w g cs t)
    (hu : P.underlying ty = some d) (hd : (match d with | .struct _ | .array _ _ => true | _ => false) = true) (hi : (P.info? ty).map (·.size) = some cs.size) :
    (results fn tmps).run P w = .ok (.tuple #[.agg cs, tmps.getD u undef]) w := by
  rw [results_cell_tmp h]
  simp [hp, asAddr, run_loadVar_row w g t ty cs (0, 0) d hg hu hd hi]
set_option maxRecDepth 100000 in
theorem sign41_big (w : World) (q p : Nat) (a : UInt64) (va : Value) (bs : List UInt8) (hq : Sg w q p a) (hp0 : w.cell? ⟨p, 0, none⟩ = some (.pointer (some ⟨p, 0, none⟩))) (hb : Bs w va bs) (hlen : 1048576 < bs.length) :
    Calls Tryz.prog 54 #[.pointer (some ⟨q, 0, none⟩), va] w fun e w' => e = .returned (.tuple #[.agg Z16, .int .i64 4]) ∧ Turn no w w' := by
  obtain ⟨va', vc, rfl⟩ := hb.slice
  obtain ⟨w0, hw0⟩ : ∃ w0, w.alloc (.cells #[.int .u8 0, .int .u8 0, .int .u8 0, .int .u8 0, .int .u8 0, .int .u8 0, .int .u8 0, .int .u8 0, .int .u8 0, .int .u8 0, .int .u8 0, .int .u8 0, .int .u8 0, .int .u8 0, .int .u8 0, .int .u8 0] 48) = w0 := ⟨_, rfl⟩
  have T0 : Turn no w w0 := by rw [← hw0]; exact (Turn.refl no w).alloc _
  have RZ : Row w0 w.heap.size Z16 48 := by rw [← hw0]; exact Row.new w _ 48
  have hm29 := made29 w0 q ((Row.turn hq T0 (fun q => q)).cell 0 _ rfl)
  have hm25 := made25 w0 p (T0.keep hp0 (fun q => q))
  have c1 : w0.cell? ⟨q, 1, none⟩ = some (.pointer (some ⟨p, 0, none⟩)) := (Row.turn hq T0 (fun q => q)).cell 1 _ rfl
  have hle' : (1048576 : Int) < (bs.length : Int) := by omega
  have b31 := built31
  have s31 := size31z
  have o31 := one31
  have HT0 := shut1 T0
  obtain ⟨Z, hZ⟩ : ∃ Z, Z16 = Z := ⟨_, rfl⟩
  rw [hZ] at RZ b31 s31 o31 ⊢
  clear hZ T0 hb hq hp0 hlen
  go_enter Tryz.func54, Tryz.ntmps54
  go_upto_region 1 with fail
  try rw [hw0]
  clear hw0
  go_wp2_with (first | (go_at_call 84; refine hm29.mono ?_; rintro e w1 ⟨rfl, e1⟩; subst e1) | (go_at_call 48; refine hm25.mono ?_; rintro e w1 ⟨rfl, e1⟩; subst e1) | (refine wpList_build_noneX rfl 48 rfl Z b31 ?_) | (refine wpList_store_anyX rfl rfl 48 (.tmp 4) (.tmp 21) rfl w.heap.size Z rfl rfl 48 Z RZ s31 rfl o31 ?_; intro w2 R2 T2; have HT2 := shut1 T2; clear T2 RZ))
  refine ⟨rfl, _, results_rowX (g := w.heap.size) (cs := Z) (t := 48) rfl _ _ _ rfl R2 Tryz.underlying48 rfl s31, rfl, ?_⟩
  exact HT0.out.trans HT2.out (fun k hk q => by have q : k = w.heap.size := q; omega)
section
variable {w : World} {q : Nat} {ve vr : Value} {E : List UInt64} {R : List Rec}
theorem Rf.lt (h : Rf w q ve vr E R) {g : Nat} (hg : RFp q ve vr g) : g < w.heap.size := by
  rcases hg with e | e | e
  · subst e; exact h.row.lt
  · exact h.oe.lt e
  · exact h.orr.lt e
theorem eql64_nil (a : Addr) (W : World) : (binOp .eql 91 (.pointer (some a)) (.pointer none)).run Tryz.prog W = .ok (.bool false) W := by
  have h : ∀ d : Nat, (Op.equalIn (d + 1) 91 (.pointer (some a)) (.pointer none)).run Tryz.prog W = .ok false W := fun d => by
    simp [Op.equalIn, run_underlying Tryz.underlying91]
  simp only [binOp]
  simp [Op.equal, Op.maxDepth, h 9999]
theorem eql36_nil (a : Addr) (W : World) : (binOp .eql 61 (.pointer (some a)) (.pointer none)).run Tryz.prog W = .ok (.bool false) W := by
  have h : ∀ d : Nat, (Op.equalIn (d + 1) 61 (.pointer (some a)) (.pointer none)).run Tryz.prog W = .ok false W := fun d => by
    simp [Op.equalIn, run_underlying Tryz.underlying61]
  simp only [binOp]
  simp [Op.equal, Op.maxDepth, h 9999]
set_option maxRecDepth 100000 in
theorem rsign42_big (s : Nat) (a : UInt64) (hs : Rsg w s q a) (va : Value) (bs : List UInt8) (hb : Bs w va bs) (hlen : 1048576 < bs.length) :
    Calls Tryz.prog 55 #[.pointer (some ⟨s, 0, none⟩), va] w fun e w' => e = .returned (.tuple #[.agg Z16, .int .i64 4]) ∧ Turn no w w' := by
  obtain ⟨va', vc, rfl⟩ := hb.slice
  obtain ⟨w0, hw0⟩ : ∃ w0, w.alloc (.cells #[.int .u8 0, .int .u8 0, .int .u8 0, .int .u8 0, .int .u8 0, .int .u8 0, .int .u8 0, .int .u8 0, .int .u8 0, .int .u8 0, .int .u8 0, .int .u8 0, .int .u8 0, .int .u8 0, .int .u8 0, .int .u8 0] 48) = w0 := ⟨_, rfl⟩
  have T0 : Turn no w w0 := by rw [← hw0]; exact (Turn.refl no w).alloc _
  have RZ : Row w0 w.heap.size Z16 48 := by rw [← hw0]; exact Row.new w _ 48
  have c0 : w0.cell? ⟨s, 0, none⟩ = some (.pointer (some ⟨q, 0, none⟩)) := (Row.turn hs T0 (fun q => q)).cell 0 _ rfl
  have hle' : (1048576 : Int) < (bs.length : Int) := by omega
  have e1 := fun a W => eql64_nil a W
  have e2 := fun a W => eql36_nil a W
  have b31 := built31
  have s31 := size31z
  have o31 := one31
  have HT0 := shut1 T0
  obtain ⟨Z, hZ⟩ : ∃ Z, Z16 = Z := ⟨_, rfl⟩
  rw [hZ] at RZ b31 s31 o31 ⊢
  clear hZ T0 hb hs hlen
  go_enter Tryz.func55, Tryz.ntmps55
  go_upto_region 1 with fail
  try rw [hw0]
  clear hw0
  go_wp2_with (first | (refine wpList_build_noneX rfl 48 rfl Z b31 ?_) | (refine wpList_store_anyX rfl rfl 48 (.tmp 4) (.tmp 19) rfl w.heap.size Z rfl rfl 48 Z RZ s31 rfl o31 ?_; intro w2 R2 T2; have HT2 := shut1 T2; clear T2 RZ))
  refine ⟨rfl, _, results_rowX (g := w.heap.size) (cs := Z) (t := 48) rfl _ _ _ rfl R2 Tryz.underlying48 rfl s31, rfl, ?_⟩
  exact HT0.out.trans HT2.out (fun k hk q => by have q : k = w.heap.size := q; omega)
theorem info100 : (Tryz.prog.info? 186).map (fun i => (i.zero, i.size, i.bytes)) = some (some (.agg #[.int .u64 0, .string ⟨#[]⟩]), 2, 24) := by kernel_rfl
theorem src_rec (w W : World) (r : Rec) (T : Turn no (w.alloc (.cells #[.int .u64 r.1.toNat, .string ⟨r.2.toArray⟩] 186)) W) : Src Tryz.prog 2 136 (.slice (some ⟨w.heap.size, 0, none⟩) 1 1) 1 (recC r) W := by
  refine Src.ofSlice _ Tryz.underlying136 _ _ _ _ rfl (fun j u hu => ?_) (by simp [recC, Value.oneCell'])
  refine T.keep ?_ (fun q => q)
  rw [Addr.add_lit, cell_of_row _ w.heap.size (0 + j) _ 186 (0, 0) (heap_alloc_new w _)]
  rw [Nat.zero_add]
  simpa [recC] using hu
/-- A record more in the document's book. -/
theorem Rf.more (h : Rf w q ve vr E R) (r : Rec) (hRl : R.length ≤ 1599289640401) : ∃ v' w', (∀ ty, (Builtin.append_ #[136, 136] ty #[vr, .slice (some ⟨w.heap.size, 0, none⟩) 1 1]).run Tryz.prog (w.alloc (.cells #[.int .u64 r.1.toNat, .string ⟨r.2.toArray⟩] 186)).drew = .ok v' w') ∧
    Row w' q #[.bool true, ve, vr] 138 ∧ Rf (w'.setCell ⟨q, 2, none⟩ v') q ve v' E (R ++ [r]) ∧ (∀ g, v'.ownBlock = some g → vr.ownBlock = some g ∨ w.heap.size ≤ g) ∧ Turn (fun k => vr.ownBlock = some k) w w' := by
  have t1 : Turn no w (w.alloc (.cells #[.int .u64 r.1.toNat, .string ⟨r.2.toArray⟩] 186)).drew := ((Turn.refl no w).alloc _).drew
  have o1 := h.orr.turn_no t1
  obtain ⟨v', w', hr, ho, hg⟩ := run_append_srcN (P := Tryz.prog) (t := 136) (tx := 136) Tryz.underlying136 info100 rfl (by omega) 136 _ vr R.length _ o1 (.slice (some ⟨w.heap.size, 0, none⟩) 1 1) 1 (recC r) (src_rec w _ r (Turn.refl no _).drew) (by omega) (by simp only [maxLen]; omega)
  have r1 := h.row.turn t1 (fun q => q)
  have hqv : vr.ownBlock ≠ some q := fun e => by
    obtain ⟨c, ho'⟩ := o1.obj e
    exact absurd (tag_ne ho' r1) (by decide)
  have r2 := r1.turn hg.turn hqv
  have oe1 := h.oe.turn_no t1
  have oe2 := oe1.turn hg.turn (fun g hg' e => by
    obtain ⟨c, ho'⟩ := o1.obj e
    obtain ⟨c', ho''⟩ := oe1.obj hg'
    exact absurd (tag_ne ho' ho'') (by decide))
  have tS : Turn (fun k => k = q) w' (w'.setCell ⟨q, 2, none⟩ v') := (Turn.refl (fun k => k = q) w').setCell (p := ⟨q, 2, none⟩) (fun _ => rfl) _
  refine ⟨v', w', fun ty => hr, r2, ⟨r2.set 2 v', oe2.turn tS (fun g hg' e => ?_), ?_⟩, fun g hg' => ?_, t1.of_no.trans hg.turn (fun _ _ q => q)⟩
  · subst e
    obtain ⟨c, ho'⟩ := oe2.obj hg'
    exact absurd (tag_ne ho' r2) (by decide)
  · have := ho.turn tS (fun g hg' e => by
      subst e
      obtain ⟨c, ho'⟩ := ho.obj hg'
      exact absurd (tag_ne ho' r2) (by decide))
    simpa using this
  · rcases hg.blk with e | ⟨g', e, h1, _⟩
    · exact .inl (by rw [← e]; exact hg')
    · rw [e] at hg'
      cases hg'
      simp at h1
      exact .inr (by omega)
set_option maxRecDepth 100000 in
set_option maxHeartbeats 4000000 in
theorem rsign42 (h : Rf w q ve vr E R) (s : Nat) (a : UInt64) (hs : Rsg w s q a) (va : Value) (bs : List UInt8) (hb : Bs w va bs) (hva : ∀ g, va.ownBlock = some g → g ≠ q ∧ vr.ownBlock ≠ some g) (hl : Laid0 w) (h2 : 3 ≤ w.heap.size) (hq0 : q ≠ 1) (hr0 : vr.ownBlock ≠ some 1) (hlen : bs.length ≤ 1048576) (hRl : R.length ≤ 1599289640401) :
    Calls Tryz.prog 55 #[.pointer (some ⟨s, 0, none⟩), va] w fun e w' => e = .returned (.tuple #[.agg (sealV a bs), .int .i64 0]) ∧ ∃ vr', Rf w' q ve vr' E (noted R a bs) ∧ (∀ g, vr'.ownBlock = some g → vr.ownBlock = some g ∨ w.heap.size ≤ g) ∧ Turn (fun k => k = q ∨ vr.ownBlock = some k) w w' := by
  obtain ⟨va', vc, hvae⟩ := hb.slice
  obtain ⟨w0, hw0⟩ : ∃ w0, w.alloc (.cells #[.int .u8 0, .int .u8 0, .int .u8 0, .int .u8 0, .int .u8 0, .int .u8 0, .int .u8 0, .int .u8 0, .int .u8 0, .int .u8 0, .int .u8 0, .int .u8 0, .int .u8 0, .int .u8 0, .int .u8 0, .int .u8 0] 48) = w0 := ⟨_, rfl⟩
  have T0 : Turn no w w0 := by rw [← hw0]; exact (Turn.refl no w).alloc _
  have RZ : Row w0 w.heap.size Z16 48 := by rw [← hw0]; exact Row.new w _ 48
  have h0 := h.turn_no T0
  have hs0 : Rsg w0 s q a := Row.turn hs T0 (fun q => q)
  have hb0 := hb.turn_no T0
  have c0 : w0.cell? ⟨s, 0, none⟩ = some (.pointer (some ⟨q, 0, none⟩)) := Row.cell hs0 0 _ rfl
  have c1 : w0.cell? ⟨s, 1, none⟩ = some (.int .u64 a.toNat) := Row.cell hs0 1 _ rfl
  have hsq : s ≠ q := by
    rintro rfl
    exact absurd (tag_ne hs h.row) (by decide)
  have hsr : vr.ownBlock ≠ some s := fun e => by
    obtain ⟨c, ho⟩ := h.orr.obj e
    exact absurd (tag_ne ho hs) (by decide)
  have hle' : ¬ (1048576 : Int) < (bs.length : Int) := by omega
  have e1 := fun a W => eql64_nil a W
  have e2 := fun a W => eql36_nil a W
  have hgw : Shut (∀ g, RFp q ve vr g → g < w.heap.size) := fun g hg => h.lt hg
  have Hva := shut1 hva
  have ch := fun W (t : Turn no w0 W) => rhas54 (h0.turn_no t) a va bs (hb0.turn_no t)
  rw [hvae] at ch ⊢
  obtain ⟨ra, rc, hvr, _⟩ := h.recs_at
  clear h hs
  go_enter Tryz.func55, Tryz.ntmps55
  go_upto_region 1 with fail
  try rw [hw0]
  clear hw0
  go_wp2_with fail
  refine wp_region_noPanic ?_
  refine wp_region_held_drew (S := fun W => Turn no w0 W) (by kernel_rfl) ((Turn.refl no w0).drew) (fun hHeld => ?_)
  refine' wpAnyH_take (i := 0) (v := .pointer (some ⟨s, 0, none⟩)) rfl (by kernel_rfl) (by kernel_rfl) (by kernel_rfl) (fun _ _ _ h => h) (Or.inl ⟨by kernel_rfl, fun W hW => ?y1⟩) hHeld ?r1
  · go_simp
  refine' wpAnyH_take (i := 1) (v := .pointer (some ⟨s, 0, none⟩)) rfl (by kernel_rfl) (by kernel_rfl) (by kernel_rfl) (fun _ _ _ h => h) (Or.inl ⟨by kernel_rfl, fun W hW => ?y2⟩) hHeld ?r2
  · go_simp
  refine' wpAnyH_take (i := 2) (v := .pointer (some ⟨s, 0, none⟩)) rfl (by kernel_rfl) (by kernel_rfl) (by kernel_rfl) (fun _ _ _ h => h) (Or.inl ⟨by kernel_rfl, fun W hW => ?y3⟩) hHeld ?r3
  · go_simp
  refine' wpAnyH_take (i := 3) (v := .pointer (some ⟨q, 0, none⟩)) rfl (by kernel_rfl) (by kernel_rfl) (by kernel_rfl) (fun _ _ _ h => h) (Or.inl ⟨by kernel_rfl, fun W hW => ?y4⟩) hHeld ?r4
  · have c := hW.keep c0 (fun q => q)
    go_simp
  refine' wpAnyH_take (i := 4) (v := .pointer (some ⟨s, 0, none⟩)) rfl (by kernel_rfl) (by kernel_rfl) (by kernel_rfl) (fun _ _ _ h => h) (Or.inl ⟨by kernel_rfl, fun W hW => ?y5⟩) hHeld ?r5
  · go_simp
  refine' wpAnyH_take (i := 5) (v := .pointer (some ⟨s, 0, none⟩)) rfl (by kernel_rfl) (by kernel_rfl) (by kernel_rfl) (fun _ _ _ h => h) (Or.inl ⟨by kernel_rfl, fun W hW => ?y6⟩) hHeld ?r6
  · go_simp
  refine' wpAnyH_take (i := 6) (v := .pointer (some ⟨s, 1, none⟩)) rfl (by kernel_rfl) (by kernel_rfl) (by kernel_rfl) (fun _ _ _ h => h) (Or.inl ⟨by kernel_rfl, fun W hW => ?y7⟩) hHeld ?r7
  · go_simp
  refine' wpAnyH_take (i := 7) (v := .int .u64 a.toNat) rfl (by kernel_rfl) (by kernel_rfl) (by kernel_rfl) (fun _ _ _ h => h) (Or.inl ⟨by kernel_rfl, fun W hW => ?y8⟩) hHeld ?r8
  · have c := hW.keep c1 (fun q => q)
    go_simp
  refine' wpAnyH_take (i := 8) (v := .slice va' bs.length vc) rfl (by kernel_rfl) (by kernel_rfl) (by kernel_rfl) (fun _ _ _ h => h) (Or.inl ⟨by kernel_rfl, fun W hW => ?y9⟩) hHeld ?r9
  · go_simp
  refine wpAnyH_ready (rs := [9]) (by kernel_rfl) (by simp) ?_
  refine AllReadyH.cons rfl (fun K hK => ?_) AllReadyH.nil
  go_simp
  refine (ch _ ((Turn.refl no w0).drew)).mono ?_
  rintro e w2 ⟨rfl, t2⟩
  have T2 : Turn no w0 w2 := (Turn.refl no w0).drew.then_no t2
  refine hK.out _ _ T2 (fun hHeld => ?_)
  clear hK
  refine' wpAnyH_take (i := 10) (v := .bool (!decide ((a, bs) ∈ R))) rfl (by kernel_rfl) (by kernel_rfl) (by kernel_rfl) (fun _ _ _ h => h) (Or.inl ⟨by kernel_rfl, fun W hW => ?y10⟩) hHeld ?r10
  · go_simp
  refine wpAnyH_done (by kernel_rfl) ?_ _
  refine NoPanic.normal ?_
  go_simp
  have h2' := h0.turn_no T2
  have RZ2 := Row.turn RZ T2 (fun q => q)
  have d0 := T2.keep c0 (fun q => q)
  have d1 := T2.keep c1 (fun q => q)
  have hb2 := hb0.turn_no T2
  have T02 := T0.then_no T2
  have hl2 : Laid0 w2 := hl.turn T02 (fun q => q)
  have hsz2 : 3 ≤ w2.heap.size := by have := T02.size; omega
  have s31 : (Tryz.prog.info? 48).map (·.size) = some (sealV a bs).size := by rw [size31z, sealV_size]; rfl
  have o31 := sealV_one a bs
  have z31 : Z16.size = (sealV a bs).size := by rw [sealV_size]; rfl
  clear ch h0 RZ c0 c1 hb0 t2 hHeld hb hl
  by_cases hin : (a, bs) ∈ R
  · have hno : noted R a bs = R := if_pos hin
    have hd : decide ((a, bs) ∈ R) = true := by simpa using hin
    have HNo := shut1 hno
    simp only [hd, Bool.not_true]
    have co := of17 w2 a va bs hb2 hl2 hsz2 (by omega)
    rw [hvae] at co
    have FIN : Shut (Rf w2 q ve vr E R ∧ Turn no w w2) := ⟨h2', T02⟩
    clear h2' hb2 hl2 T02 hin hno hd T0 T2
    generalize hY : sealV a bs = Y at *
    have HY := shut1 hY
    clear hY
    go_wp2_with (first | (go_at_call 88; refine co.mono ?_; rintro e w3 ⟨rfl, t3⟩; have RZ3 := Row.turn RZ2 t3 (fun q => q)) | (refine wpList_store_anyX rfl rfl 48 (.tmp 4) (.tmp 58) rfl w.heap.size Y rfl rfl 48 Z16 RZ3 s31 z31 o31 ?_; intro w4 R4 T4))
    have T34 : Turn (fun k => k = w.heap.size) w2 w4 := t3.of_no.trans T4 (fun _ _ q => q)
    refine ⟨rfl, _, results_rowX (g := w.heap.size) (cs := Y) (t := 48) rfl _ _ _ rfl R4 Tryz.underlying48 rfl s31, (by rw [HY.out]; rfl), vr, (by rw [HNo.out]; exact FIN.out.1.turn T34 (fun g hg q => (by have q : g = w.heap.size := q; have hlt := hgw.out g hg; omega))), fun g hg => .inl hg, (FIN.out.2.of_no).trans T34 (fun k hk q => by have q : k = w.heap.size := q; omega)⟩
  · have hno : noted R a bs = R ++ [(a, bs)] := if_neg hin
    have hd : decide ((a, bs) ∈ R) = false := by simpa using hin
    have HNo := shut1 hno
    simp only [hd, Bool.not_false]
    obtain ⟨v4, w4, hap, r4, F4, f4, t4⟩ := h2'.more (a, bs) hRl
    have cq : w2.cell? ⟨q, 2, none⟩ = some vr := h2'.row.cell 2 _ rfl
    have cq' : (w2.alloc (.cells #[.int .u64 a.toNat, .string ⟨bs.toArray⟩] 186)).drew.cell? ⟨q, 2, none⟩ = some vr := (((Turn.refl no w2).alloc _).drew).keep cq (fun q => q)
    have a4 : w4.cell? ⟨q, 2, none⟩ = some vr := r4.cell 2 _ rfl
    have z4 := Row.frozen r4 2
    have hS2 : ∀ g, va.ownBlock = some g → ¬ (g = q ∨ vr.ownBlock = some g) := fun g hg e => by
      rcases e with e | e
      · exact (Hva.out g hg).1 e
      · exact (Hva.out g hg).2 e
    have cv := fun W (t : Turn (fun k => k = q ∨ vr.ownBlock = some k) w2 W) => bytes_text (hb2.turn t hS2)
    rw [hvae] at cv
    have ks : ∀ k, k = s → ¬ (k = q ∨ vr.ownBlock = some k) := fun k e e' => by
      subst e
      rcases e' with e' | e'
      · exact hsq e'
      · exact hsr e'
    have T24 : Turn (fun k => k = q ∨ vr.ownBlock = some k) w2 w4 := t4.mono (fun _ _ e => .inr e)
    have T25 : Turn (fun k => k = q ∨ vr.ownBlock = some k) w2 (w4.setCell ⟨q, 2, none⟩ v4) := T24.setCell (p := ⟨q, 2, none⟩) (fun _ => .inl rfl) _
    have co := of17 (w4.setCell ⟨q, 2, none⟩ v4) a va bs (hb2.turn T25 hS2) (hl2.turn T25 (fun e => by rcases e with e | e; exact hq0 e.symm; exact hr0 e)) (by have := T25.size; omega) (by omega)
    rw [hvae] at co
    have d1' := T25.keep d1 (ks s rfl)
    have RZ5 := Row.turn RZ2 T25 (fun e => by
      rcases e with e | e
      · have := hgw.out q (.inl rfl); omega
      · have := hgw.out _ (.inr (.inr e)); omega)
    have FIN : Shut (Rf (w4.setCell ⟨q, 2, none⟩ v4) q ve v4 E (R ++ [(a, bs)]) ∧ (∀ g, v4.ownBlock = some g → vr.ownBlock = some g ∨ w.heap.size < g) ∧ Turn (fun k => k = q ∨ vr.ownBlock = some k) w (w4.setCell ⟨q, 2, none⟩ v4)) := ⟨F4, fun g hg => by
      rcases f4 g hg with e | e
      · exact .inl e
      · have h5 := RZ2.lt
        exact .inr (by omega), (T02.of_no).trans T25 (fun _ _ e => e)⟩
    obtain ⟨xa, xn, xc, hv4⟩ : ∃ a n c, v4 = .slice a n c := by
      obtain ⟨a, c, e, _⟩ := F4.recs_at
      exact ⟨a, _, c, e⟩
    have HT24 := shut1 T24
    have HT25 := shut1 T25
    clear h2' hb2 hl2 T02 hin hno hd T0 T2 F4 f4 t4 r4 T24 T25 RZ2
    have HV := shut1 hvr
    subst hvr
    subst hv4
    generalize hY : sealV a bs = Y at *
    have HY := shut1 hY
    clear hY
    go_wp2_with fail
    refine wp_region_noPanic ?_
    refine wp_region_held_drew (S := fun W => Turn (fun k => k = q ∨ (Value.slice ra R.length rc).ownBlock = some k) w2 W) (by kernel_rfl) ((Turn.refl _ w2).drew) (fun hHeld => ?_)
    refine' wpAnyH_take (i := 0) (v := .pointer (some ⟨s, 0, none⟩)) rfl (by kernel_rfl) (by kernel_rfl) (by kernel_rfl) (fun _ _ _ h => h) (Or.inl ⟨by kernel_rfl, fun W hW => ?y11⟩) hHeld ?r11
    · go_simp
    refine' wpAnyH_take (i := 1) (v := .pointer (some ⟨s, 0, none⟩)) rfl (by kernel_rfl) (by kernel_rfl) (by kernel_rfl) (fun _ _ _ h => h) (Or.inl ⟨by kernel_rfl, fun W hW => ?y12⟩) hHeld ?r12
    · go_simp
    refine' wpAnyH_take (i := 2) (v := .pointer (some ⟨s, 0, none⟩)) rfl (by kernel_rfl) (by kernel_rfl) (by kernel_rfl) (fun _ _ _ h => h) (Or.inl ⟨by kernel_rfl, fun W hW => ?y13⟩) hHeld ?r13
    · go_simp
    refine' wpAnyH_take (i := 3) (v := .pointer (some ⟨q, 0, none⟩)) rfl (by kernel_rfl) (by kernel_rfl) (by kernel_rfl) (fun _ _ _ h => h) (Or.inl ⟨by kernel_rfl, fun W hW => ?y14⟩) hHeld ?r14
    · have c := hW.keep d0 (ks s rfl)
      go_simp
    refine' wpAnyH_take (i := 4) (v := .pointer (some ⟨s, 0, none⟩)) rfl (by kernel_rfl) (by kernel_rfl) (by kernel_rfl) (fun _ _ _ h => h) (Or.inl ⟨by kernel_rfl, fun W hW => ?y15⟩) hHeld ?r15
    · go_simp
    refine' wpAnyH_take (i := 5) (v := .pointer (some ⟨s, 0, none⟩)) rfl (by kernel_rfl) (by kernel_rfl) (by kernel_rfl) (fun _ _ _ h => h) (Or.inl ⟨by kernel_rfl, fun W hW => ?y16⟩) hHeld ?r16
    · go_simp
    refine' wpAnyH_take (i := 6) (v := .pointer (some ⟨s, 0, none⟩)) rfl (by kernel_rfl) (by kernel_rfl) (by kernel_rfl) (fun _ _ _ h => h) (Or.inl ⟨by kernel_rfl, fun W hW => ?y17⟩) hHeld ?r17
    · go_simp
    refine' wpAnyH_take (i := 7) (v := .pointer (some ⟨q, 0, none⟩)) rfl (by kernel_rfl) (by kernel_rfl) (by kernel_rfl) (fun _ _ _ h => h) (Or.inl ⟨by kernel_rfl, fun W hW => ?y18⟩) hHeld ?r18
    · have c := hW.keep d0 (ks s rfl)
      go_simp
    refine' wpAnyH_take (i := 8) (v := .pointer (some ⟨q, 0, none⟩)) rfl (by kernel_rfl) (by kernel_rfl) (by kernel_rfl) (fun _ _ _ h => h) (Or.inl ⟨by kernel_rfl, fun W hW => ?y19⟩) hHeld ?r19
    · go_simp
    refine' wpAnyH_take (i := 9) (v := .pointer (some ⟨q, 2, none⟩)) rfl (by kernel_rfl) (by kernel_rfl) (by kernel_rfl) (fun _ _ _ h => h) (Or.inl ⟨by kernel_rfl, fun W hW => ?y20⟩) hHeld ?r20
    · go_simp
    refine' wpAnyH_take (i := 11) (v := .pointer (some ⟨s, 0, none⟩)) rfl (by kernel_rfl) (by kernel_rfl) (by kernel_rfl) (fun _ _ _ h => h) (Or.inl ⟨by kernel_rfl, fun W hW => ?y21⟩) hHeld ?r21
    · go_simp
    refine' wpAnyH_take (i := 12) (v := .pointer (some ⟨s, 0, none⟩)) rfl (by kernel_rfl) (by kernel_rfl) (by kernel_rfl) (fun _ _ _ h => h) (Or.inl ⟨by kernel_rfl, fun W hW => ?y22⟩) hHeld ?r22
    · go_simp
    refine' wpAnyH_take (i := 13) (v := .pointer (some ⟨s, 1, none⟩)) rfl (by kernel_rfl) (by kernel_rfl) (by kernel_rfl) (fun _ _ _ h => h) (Or.inl ⟨by kernel_rfl, fun W hW => ?y23⟩) hHeld ?r23
    · go_simp
    refine' wpAnyH_take (i := 14) (v := .int .u64 a.toNat) rfl (by kernel_rfl) (by kernel_rfl) (by kernel_rfl) (fun _ _ _ h => h) (Or.inl ⟨by kernel_rfl, fun W hW => ?y24⟩) hHeld ?r24
    · have c := hW.keep d1 (ks s rfl)
      go_simp
    refine' wpAnyH_take (i := 15) (v := .slice va' bs.length vc) rfl (by kernel_rfl) (by kernel_rfl) (by kernel_rfl) (fun _ _ _ h => h) (Or.inl ⟨by kernel_rfl, fun W hW => ?y25⟩) hHeld ?r25
    · go_simp
    refine' wpAnyH_take (i := 16) (v := .string ⟨bs.toArray⟩) rfl (by kernel_rfl) (by kernel_rfl) (by kernel_rfl) (fun _ _ _ h => h) (Or.inl ⟨by kernel_rfl, fun W hW => ?y26⟩) hHeld ?r26
    · have c := cv W hW
      go_simp
    refine' wpAnyH_take (i := 17) (v := .agg #[.int .u64 a.toNat, .string ⟨bs.toArray⟩]) rfl (by kernel_rfl) (by kernel_rfl) (by kernel_rfl) (fun _ _ _ h => h) (Or.inl ⟨by kernel_rfl, fun W hW => ?y27⟩) hHeld ?r27
    · go_simp
    refine wpAnyH_ready (rs := [10, 18]) (by kernel_rfl) (by simp) ?_
    refine AllReadyH.cons rfl (fun K hK => ?_) (AllReadyH.cons rfl (fun K hK => ?_) AllReadyH.nil)
    · have cqd : w2.drew.cell? ⟨q, 2, none⟩ = some (.slice ra R.length rc) := cq
      go_simp
      refine hK.out _ _ hHeld (fun hHeld => ?_)
      clear hK
      refine wpAnyH_ready (rs := [18]) (by kernel_rfl) (by simp) ?_
      refine AllReadyH.cons rfl (fun K hK => ?_) AllReadyH.nil
      go_simp
      refine hK.out _ _ ((Turn.refl _ w2).alloc _).drew (fun hHeld => ?_)
      clear hK
      refine wpAnyH_ready (rs := [19]) (by kernel_rfl) (by simp) ?_
      refine AllReadyH.cons rfl (fun K hK => ?_) AllReadyH.nil
      rw [if_pos (by kernel_rfl)]
      refine wp_append_run _ _ rfl _ _ rfl rfl (hap _) ?_
      refine hK.out _ _ HT24.out (fun hHeld => ?_)
      clear hK
      refine' wpAnyH_take (i := 20) (v := .pointer (some ⟨q, 0, none⟩)) rfl (by kernel_rfl) (by kernel_rfl) (by kernel_rfl) (fun _ _ _ h => h) (Or.inl ⟨by kernel_rfl, fun W hW => ?y28⟩) hHeld ?r28
      · go_simp
      refine' wpAnyH_take (i := 21) (v := .pointer (some ⟨q, 2, none⟩)) rfl (by kernel_rfl) (by kernel_rfl) (by kernel_rfl) (fun _ _ _ h => h) (Or.inl ⟨by kernel_rfl, fun W hW => ?y29⟩) hHeld ?r29
      · go_simp
      refine wpAnyH_ready (rs := [22]) (by kernel_rfl) (by simp) ?_
      refine AllReadyH.cons rfl (fun K hK => ?_) AllReadyH.nil
      go_simp
      refine hK.out _ _ HT25.out (fun hHeld => ?_)
      clear hK
      refine wpAnyH_done (by kernel_rfl) ?_ _
      refine NoPanic.normal ?_
      go_simp
      generalize w4.setCell ⟨q, 2, none⟩ (.slice xa xn xc) = w5 at *
      go_wp2_with (first | (go_at_call 88; refine co.mono ?_; rintro e w6 ⟨rfl, t6⟩; have RZ6 := Row.turn RZ5 t6 (fun q => q)) | (refine wpList_store_anyX rfl rfl 48 (.tmp 4) (.tmp 58) rfl w.heap.size Y rfl rfl 48 Z16 RZ6 s31 z31 o31 ?_; intro w7 R7 T7))
      have T57 : Turn (fun k => k = w.heap.size) w5 w7 := t6.of_no.trans T7 (fun _ _ q => q)
      have F57 : Rf w7 q ve (.slice xa xn xc) E (R ++ [(a, bs)]) := FIN.out.1.turn T57 (fun g hg e => by
        have e : g = w.heap.size := e
        subst e
        rcases hg with hg | hg | hg
        · have := hgw.out _ (.inl hg); omega
        · have := hgw.out _ (.inr (.inl hg)); omega
        · rcases FIN.out.2.1 _ hg with e | e
          · have := hgw.out _ (.inr (.inr e)); omega
          · omega)
      refine ⟨rfl, _, results_rowX (g := w.heap.size) (cs := Y) (t := 48) rfl _ _ _ rfl R7 Tryz.underlying48 rfl s31, (by rw [HY.out]; rfl), _, (by rw [HNo.out]; exact F57), fun g hg => ?_, FIN.out.2.2.trans T57 (fun k hk e => by have e : k = w.heap.size := e; omega)⟩
      rcases FIN.out.2.1 g hg with e | e
      · exact .inl e
      · exact .inr (by omega)
    · go_simp
      refine hK.out _ _ ((Turn.refl _ w2).alloc _).drew (fun hHeld => ?_)
      clear hK
      refine wpAnyH_ready (rs := [10]) (by kernel_rfl) (by simp) ?_
      refine AllReadyH.cons rfl (fun K hK => ?_) AllReadyH.nil
      go_simp
      refine hK.out _ _ hHeld (fun hHeld => ?_)
      clear hK
      refine wpAnyH_ready (rs := [19]) (by kernel_rfl) (by simp) ?_
      refine AllReadyH.cons rfl (fun K hK => ?_) AllReadyH.nil
      rw [if_pos (by kernel_rfl)]
      refine wp_append_run _ _ rfl _ _ rfl rfl (hap _) ?_
      refine hK.out _ _ HT24.out (fun hHeld => ?_)
      clear hK
      refine' wpAnyH_take (i := 20) (v := .pointer (some ⟨q, 0, none⟩)) rfl (by kernel_rfl) (by kernel_rfl) (by kernel_rfl) (fun _ _ _ h => h) (Or.inl ⟨by kernel_rfl, fun W hW => ?y30⟩) hHeld ?r30
      · go_simp
      refine' wpAnyH_take (i := 21) (v := .pointer (some ⟨q, 2, none⟩)) rfl (by kernel_rfl) (by kernel_rfl) (by kernel_rfl) (fun _ _ _ h => h) (Or.inl ⟨by kernel_rfl, fun W hW => ?y31⟩) hHeld ?r31
      · go_simp
      refine wpAnyH_ready (rs := [22]) (by kernel_rfl) (by simp) ?_
      refine AllReadyH.cons rfl (fun K hK => ?_) AllReadyH.nil
      go_simp
      refine hK.out _ _ HT25.out (fun hHeld => ?_)
      clear hK
      refine wpAnyH_done (by kernel_rfl) ?_ _
      refine NoPanic.normal ?_
      go_simp
      generalize w4.setCell ⟨q, 2, none⟩ (.slice xa xn xc) = w5 at *
      go_wp2_with (first | (go_at_call 88; refine co.mono ?_; rintro e w6 ⟨rfl, t6⟩; have RZ6 := Row.turn RZ5 t6 (fun q => q)) | (refine wpList_store_anyX rfl rfl 48 (.tmp 4) (.tmp 58) rfl w.heap.size Y rfl rfl 48 Z16 RZ6 s31 z31 o31 ?_; intro w7 R7 T7))
      have T57 : Turn (fun k => k = w.heap.size) w5 w7 := t6.of_no.trans T7 (fun _ _ q => q)
      have F57 : Rf w7 q ve (.slice xa xn xc) E (R ++ [(a, bs)]) := FIN.out.1.turn T57 (fun g hg e => by
        have e : g = w.heap.size := e
        subst e
        rcases hg with hg | hg | hg
        · have := hgw.out _ (.inl hg); omega
        · have := hgw.out _ (.inr (.inl hg)); omega
        · rcases FIN.out.2.1 _ hg with e | e
          · have := hgw.out _ (.inr (.inr e)); omega
          · omega)
      refine ⟨rfl, _, results_rowX (g := w.heap.size) (cs := Y) (t := 48) rfl _ _ _ rfl R7 Tryz.underlying48 rfl s31, (by rw [HY.out]; rfl), _, (by rw [HNo.out]; exact F57), fun g hg => ?_, FIN.out.2.2.trans T57 (fun k hk e => by have e : k = w.heap.size := e; omega)⟩
      rcases FIN.out.2.1 g hg with e | e
      · exact .inl e
      · exact .inr (by omega)
end
end Go.Proofs.YtgbcdjjnpadddaaGreatDoor


