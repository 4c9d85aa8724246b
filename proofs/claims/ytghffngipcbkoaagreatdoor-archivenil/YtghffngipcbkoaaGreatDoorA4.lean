/- The walk of ArchiveNil. -/
import Derived.Test.YtghffngipcbkoaaGreatDoorA5
import Derived.LoopN
namespace Go.Proofs.YtghffngipcbkoaaGreatDoor
open Go.RowKit Go.Shelf
set_option linter.unusedVariables false

section
variable {P : Program} {ops : Array Oper} {rest : List Oper} {o : Oper} {a : Act} {w : World} {Q : Exit → Act → World → Prop}
theorem wpList_build_noneG (hg : Region.wanted o (yielded ops a.tmps) = true) (t : TypeId) (ho : o.op = .build t #[]) (cells : Array Value) (hf : P.built t [] = some cells) (h : wpList P ops Q rest (a.put o.dst (.agg cells)) w) : wpList P ops Q (o :: rest) a w := by
  have e : ((#[] : Array (Nat × Operand)).map fun (i, x) => (i, a.eval x)).toList = [] := by simp
  refine wpList_want hg fun K hK => ?_
  refine wp_build t _ ho (by rw [e, hf]; rfl) ?_
  rw [e, hf]
  exact hK _ _ h
end

theorem wp_unroll {P : Program} {c : Code} {Q : Exit → Act → World → Prop} {a : Act} {w : World} (n : Nat) (h : ∀ K : Act → World → Prop, (∀ a w, Code.rounds P c Q n a w → K a w) → c.wp P (Exit.then K Q) a w) : Code.rounds P c Q (n + 1) a w := h _ (fun _ _ h => h)
theorem neq71 (f : Nat) (cap : Array Value) (w : World) : (binOp .neq 71 (.func (.func f) #[] cap) .nilFunc).run Tryz.prog w = .ok (.bool true) w := by
  have h : ∀ d : Nat, (Op.equalIn (d + 1) 71 (.func (.func f) #[] cap) .nilFunc).run Tryz.prog w = .ok false w := fun d => by
    simp [Op.equalIn, run_underlying Tryz.underlying71]
  simp only [binOp]
  simp [Op.equal, Op.maxDepth, h 9999]
theorem num9' (w : World) (e : Int) : Calls Tryz.prog 5 #[.int .i64 e] w fun x w' => x = .returned (.int .i64 e) ∧ w = w' := (num9 w e).mono (fun _ _ h => ⟨h.1, h.2.symm⟩)
theorem head12' (w : World) (v : Value) (h : NoA w v) : Calls Tryz.prog 8 #[v] w fun e w' => e = .returned (.int .u64 0) ∧ w = w' := (head12 w v h).mono (fun _ _ h => ⟨h.1, h.2.symm⟩)

set_option maxRecDepth 100000 in
set_option maxHeartbeats 40000000 in
theorem nil3 (w : World) (B C S : Array Value) (h : Int) (hB : B[1]? = some (.int .u64 h)) (hBi : (Tryz.prog.info? 34).map (·.size) = some B.size) (hCi : (Tryz.prog.info? 32).map (·.size) = some C.size) (hSi : (Tryz.prog.info? 47).map (·.size) = some S.size) :
    Calls Tryz.prog 3 #[.agg B, .agg C, .agg S] w fun e w' => e = .returned (.bool true) ∧ Turn no w w' := by
  refine (callsIn_wide (n := 3)).1 ?_
  refine callsIn_of_wp_marks Tryz.func3 rfl trivial ?_ rfl
  refine wpIn_wide.2 ?_
  obtain ⟨w0, hw0⟩ : ∃ w0, (((w.alloc (.cells B 34)).alloc (.cells C 32)).alloc (.cells S 47)).alloc (.cells #[.bool false] 4) = w0 := ⟨_, rfl⟩
  have T0 : Turn no w w0 := by rw [← hw0]; exact ((((Turn.refl no w).alloc _).alloc _).alloc _).alloc _
  have R0 : Row w0 w.heap.size B 34 := by rw [← hw0]; exact (((Row.new w _ 34).alloc _).alloc _).alloc _
  have R1 : Row w0 (w.heap.size + 1) C 32 := by rw [← hw0]; exact ((Row.newAt (w.alloc (.cells B 34)) C 32 (w.heap.size + 1) (by simp)).alloc _).alloc _
  have R2 : Row w0 (w.heap.size + 2) S 47 := by rw [← hw0]; exact (Row.newAt ((w.alloc (.cells B 34)).alloc (.cells C 32)) S 47 (w.heap.size + 2) (by simp)).alloc _
  have R3 : Row w0 (w.heap.size + 3) #[.bool false] 4 := by rw [← hw0]; exact Row.newAt _ _ _ _ (by simp)
  have HT0 := shut T0
  have HR : Shut (∀ W, Turn no w0 W → Row W w.heap.size B 34 ∧ Row W (w.heap.size + 1) C 32 ∧ Row W (w.heap.size + 2) S 47 ∧ Row W (w.heap.size + 3) #[.bool false] 4 ∧ W.cell? ⟨w.heap.size, 1, none⟩ = some (.int .u64 h)) := fun W q =>
    ⟨R0.turn q (fun q => q), R1.turn q (fun q => q), R2.turn q (fun q => q), R3.turn q (fun q => q), (R0.turn q (fun q => q)).cell 1 _ hB⟩
  have c8 := fun W v hv => open8 W v hv
  have HT00 : Shut (w.heap.size + 3 < w0.heap.size) := R3.lt
  clear T0 R0 R1 R2 R3 hB
  simp only [Tryz.ntmps3, List.size_toArray, List.length_cons, List.length_nil, Nat.reduceAdd, Nat.reduceSub, Array.replicate_succ, Array.replicate_zero, List.push_toArray, List.append_toArray, List.nil_append, List.cons_append]
  go_upto_region 1 with fail
  try rw [hw0]
  clear hw0
  have c1 := open8 w0 (.pointer none) (.inl rfl)
  go_upto_region 2 with (go_at_call 4; refine c1.mono ?_; rintro e w1 ⟨rfl, t1⟩; have HT1 := shut t1; clear t1 c1)
  have c2 := open8 (w1.alloc (.cells #[.pointer none, .int .i64 0, .map none, .int .i64 0, .int .i64 0, .map none, .bool false, .bool false] 56)) (.pointer (some ⟨w1.heap.size, 0, none⟩)) (.inr ⟨_, rfl, (Row.new w1 _ 56).cell 0 _ rfl⟩)
  go_upto_region 3 with (go_at_call 4; refine c2.mono ?_; rintro e w2 ⟨rfl, t2⟩; have HT2 : Shut (Turn no w1 w2) := ((Turn.refl no w1).alloc _).then_no t2; clear t2 c2)
  go_upto_region 5 with (go_at_call 5; refine (num9' _ _).mono ?_; rintro e wx ⟨rfl, rfl⟩)
  go_upto_region 7 with fail
  obtain ⟨w3, hw3⟩ : ∃ w3, (w2.alloc (.cells #[.pointer none, .pointer none, .int .u64 0, .bool false] 59)).alloc (.cells #[.pointer none, .pointer (some ⟨w2.heap.size, 0, none⟩)] 48) = w3 := ⟨_, rfl⟩
  have HT23 : Shut (Turn no w2 w3) := by rw [← hw3]; exact ((Turn.refl no w2).alloc _).alloc _
  have HT03 := shut (HT1.out.then_no (HT2.out.then_no HT23.out))
  have HL : Shut (∀ W, Turn no w3 W → W.cell? ⟨w2.heap.size + 1, 0, none⟩ = some (.pointer none) ∧ W.cell? ⟨w2.heap.size + 1, 1, none⟩ = some (.pointer (some ⟨w2.heap.size, 0, none⟩)) ∧ NoA W (.pointer (some ⟨w2.heap.size, 0, none⟩))) := fun W q => by
    have a : Row w3 (w2.heap.size + 1) #[.pointer none, .pointer (some ⟨w2.heap.size, 0, none⟩)] 48 := by rw [← hw3]; exact Row.newAt _ _ _ _ (by simp)
    have b : Row w3 w2.heap.size #[.pointer none, .pointer none, .int .u64 0, .bool false] 59 := by rw [← hw3]; exact (Row.new w2 _ 59).alloc _
    exact ⟨(a.turn q (fun q => q)).cell 0 _ rfl, (a.turn q (fun q => q)).cell 1 _ rfl, .inr ⟨_, rfl, (b.turn q (fun q => q)).cell 0 _ rfl⟩⟩
  try rw [hw3]
  clear hw3
  have s34 := size34
  have s32 := size32
  have s47 := size47
  have o34 := one34
  have o32 := one32
  have o47 := one47
  have h34 := built34
  have h32 := built32
  have C15 := shut block15
  have C16 := shut cert16
  have HZ0 : Shut (Z47[0]? = some (.string ⟨#[]⟩)) := rfl
  have HZ13 : Shut (Z47[13]? = some (.int .u64 0)) := rfl
  obtain ⟨z34, hz34⟩ : ∃ z, Tryz.zeroCells34 = z := ⟨_, rfl⟩
  obtain ⟨z32, hz32⟩ : ∃ z, Z32 = z := ⟨_, rfl⟩
  obtain ⟨z47, hz47⟩ : ∃ z, Z47 = z := ⟨_, rfl⟩
  have HZ34 := shut hz34
  have HZ32 := shut hz32
  have HZ47 := shut hz47
  have HZL : Shut (#[.int .u64 0, .int .i64 0, .int .u8 0, .int .u8 0, .int .u8 0, .int .u8 0, .int .u8 0, .int .u8 0, .int .u8 0, .int .u8 0, .int .u8 0, .int .u8 0, .int .u8 0, .int .u8 0, .int .u8 0, .int .u8 0, .int .u8 0, .int .u8 0, .int .u8 0, .int .u8 0, .int .u8 0, .int .u8 0, .int .u8 0, .int .u8 0, .int .u8 0, .int .u8 0, .int .u8 0, .int .u8 0, .int .u8 0, .int .u8 0, .int .u8 0, .int .u8 0, .int .u8 0, .int .u8 0, .slice none 0 0] = z32) := hz32
  have HZM : Shut (#[.string ⟨#[]⟩, .int .u64 0, .int .i64 0, .int .u64 0, .int .u64 0, .int .u64 0, .int .i64 0, .int .u64 0, .int .u64 0, .int .u64 0, .int .u64 0, .int .u64 0, .int .u64 0, .int .u64 0, .int .u64 0, .int .u8 0, .int .u8 0, .int .u8 0, .int .u8 0, .int .u8 0, .int .u8 0, .int .u8 0, .int .u8 0, .int .u8 0, .int .u8 0, .int .u8 0, .int .u8 0, .int .u8 0, .int .u8 0, .int .u8 0, .int .u8 0, .int .u8 0, .int .u8 0, .int .u8 0, .int .u8 0, .int .u8 0, .int .u8 0, .int .u8 0, .int .u8 0, .int .u8 0, .int .u8 0, .int .u8 0, .int .u8 0, .int .u8 0, .int .u8 0, .int .u8 0, .int .u8 0, .slice none 0 0, .slice none 0 0, .slice none 0 0, .slice none 0 0, .slice none 0 0, .slice none 0 0, .int .u64 0, .int .u64 0] = z47) := hz47
  rw [hz34] at s34 o34 h34 C15
  rw [hz32] at s32 o32 h32 C16
  rw [hz47] at s47 o47 HZ0 HZ13
  clear hz34 hz32 hz47
  have HTs0 : Shut (Turn no w3 w3) := Turn.refl no w3
  refine wp_loop_rounds 3 (wp_unroll 2 fun K0 hK0 => ?_)
  have HL0 := shut (HL.out w3 HTs0.out)
  have HR0 := shut (HR.out w3 (HT03.out.then_no HTs0.out))
  obtain ⟨l0, l1, _⟩ := HL0.out
  obtain ⟨_, _, _, _, x1⟩ := HR0.out
  have c10 := load10 w3 (.pointer none) h (.inl rfl)
  rw [HZ34.out, HZ32.out] at c10
  go_upto_region 11 with (first | (go_at_call 6; refine c10.mono ?_; rintro e wa0 ⟨rfl, ta⟩; have HTa0 := shut ta; clear ta c10 l0 l1 x1) | (refine wpList_store_anyN rfl rfl 34 (.tmp 14) (.tmp 66) rfl wa0.heap.size z34 rfl rfl 34 _ ((Row.newAt wa0 Tryz.zeroCells34 34 wa0.heap.size rfl).alloc _) s34 (by rw [HZ34.out]) o34 ?_; intro wb R2 T2; have B2 := (Row.newAt (wa0.alloc (.cells Tryz.zeroCells34 34)) #[.int .u64 0, .int .i64 0, .int .u8 0, .int .u8 0, .int .u8 0, .int .u8 0, .int .u8 0, .int .u8 0, .int .u8 0, .int .u8 0, .int .u8 0, .int .u8 0, .int .u8 0, .int .u8 0, .int .u8 0, .int .u8 0, .int .u8 0, .int .u8 0, .int .u8 0, .int .u8 0, .int .u8 0, .int .u8 0, .int .u8 0, .int .u8 0, .int .u8 0, .int .u8 0, .int .u8 0, .int .u8 0, .int .u8 0, .int .u8 0, .int .u8 0, .int .u8 0, .int .u8 0, .int .u8 0, .slice none 0 0] 32 (wa0.heap.size + 1) (by simp)).turn T2 (fun q => by have q : wa0.heap.size + 1 = wa0.heap.size := q; omega); have HT2 : Shut (Turn no wa0 wb) := (((Turn.refl no wa0).alloc _).alloc _).trans T2 (fun k hk q => by have q : k = wa0.heap.size := q; exact absurd hk (by omega)); clear T2) | (refine wpList_store_anyN rfl rfl 32 (.tmp 15) (.tmp 67) rfl (wa0.heap.size + 1) z32 rfl rfl 32 _ B2 s32 (by rw [← HZL.out]) o32 ?_; intro wc0 R3 T3; have HR14_0 := shut (R2.turn T3 (fun q => by have q : wa0.heap.size = wa0.heap.size + 1 := q; omega)); have HR15_0 := shut R3; have HTc0 : Shut (Turn no w3 wc0) := HTa0.out.then_no (HT2.out.trans T3 (fun k hk q => by have q : k = wa0.heap.size + 1 := q; exact absurd hk (by omega))); clear T3 R2 R3 B2 HT2))
  have c11 := noted11 wc0 (.pointer none) ((.inl rfl))
  rw [HZ47.out] at c11
  go_upto_region 12 with (first | (go_at_call 7; refine c11.mono ?_; rintro e wd0 ⟨rfl, td⟩; have HTd0 := shut td; clear td c11) | (refine wpList_store_anyN rfl rfl 47 (.tmp 17) (.tmp 72) rfl wd0.heap.size z47 rfl rfl 47 _ (Row.new wd0 _ 47) s47 (by rw [← HZM.out]) o47 ?_; intro we0 R3 T3; have HR17_0 := shut R3; have HTe0 : Shut (Turn no wc0 we0) := HTd0.out.then_no (((Turn.refl no wd0).alloc _).trans T3 (fun k hk q => by have q : k = wd0.heap.size := q; exact absurd hk (by omega))); clear T3 R3))
  have HTse0 := shut (HTc0.out.then_no HTe0.out)
  have HN0 : Shut (∀ W, Turn no we0 W → NoA W (.pointer none)) := fun W q => (.inl rfl)
  have HRe0 : Shut (∀ W, Turn no we0 W → Row W w.heap.size B 34 ∧ Row W (w.heap.size + 1) C 32 ∧ Row W (w.heap.size + 2) S 47 ∧ Row W wa0.heap.size z34 34 ∧ Row W (wa0.heap.size + 1) z32 32 ∧ W.cell? ⟨wd0.heap.size, 0, none⟩ = some (.string ⟨#[]⟩) ∧ W.cell? ⟨wd0.heap.size, 13, none⟩ = some (.int .u64 0)) := fun W q =>
    have a := HR0.out
    have t := HTse0.out.then_no q
    have r17 := HR17_0.out.turn q (fun q => q)
    ⟨a.1.turn t (fun q => q), a.2.1.turn t (fun q => q), a.2.2.1.turn t (fun q => q), HR14_0.out.turn (HTe0.out.then_no q) (fun q => q), HR15_0.out.turn (HTe0.out.then_no q) (fun q => q), r17.cell 0 _ HZ0.out, r17.cell 13 _ HZ13.out⟩
  obtain ⟨rB, rC, _, _, _, _, _⟩ := HRe0.out we0 (Turn.refl no _)
  have c12 := head12' we0 (.pointer none) (HN0.out _ (Turn.refl no _))
  have c13 := save13 we0 (.pointer none) B C (HN0.out _ (Turn.refl no _))
  have HQ : Shut True := trivial
  go_upto_region 14 with (first | (go_at_call 8; refine c12.mono ?_; rintro e wx ⟨rfl, rfl⟩; clear c12) | (guard_target =~ wpList _ _ _ ({ dst := _, op := Op.load 34 _, type := _, pos := _, after := _, guard := _ } :: _) _ _; refine wpList_load_rowG (by rfl) 34 (.tmp 3) rfl w.heap.size rfl B 34 _ rB Tryz.underlying34 rfl hBi ?_) | (guard_target =~ wpList _ _ _ ({ dst := _, op := Op.load 32 _, type := _, pos := _, after := _, guard := _ } :: _) _ _; refine wpList_load_rowG (by rfl) 32 (.tmp 4) rfl (w.heap.size + 1) rfl C 32 _ rC Tryz.underlying32 rfl hCi ?_) | (go_at_call 9; refine c13.mono ?_; rintro e wf0 ⟨rfl, tf⟩; have HTf0 := shut tf; clear c13 tf rB rC; obtain ⟨_, _, rS, _, _, _, _⟩ := HRe0.out wf0 HTf0.out; have c14 := note14 wf0 (.pointer none) S (HN0.out _ HTf0.out)) | (go_at_call 5; refine (num9' _ _).mono ?_; rintro e wx ⟨rfl, rfl⟩) | (guard_target =~ wpList _ _ _ ({ dst := _, op := Op.load 47 _, type := _, pos := _, after := _, guard := _ } :: _) _ _; refine wpList_load_rowG (by rfl) 47 (.tmp 5) rfl (w.heap.size + 2) rfl S 47 _ rS Tryz.underlying47 rfl hSi ?_) | (go_at_call 10; refine c14.mono ?_; rintro e wg0 ⟨rfl, tg⟩; have HTg0 := shut (HTf0.out.then_no tg); clear c14 tg rS; obtain ⟨_, _, _, r14, _, _, _⟩ := HRe0.out wg0 HTg0.out; have c15 := C15.out wg0) | (guard_target =~ wpList _ _ _ ({ dst := _, op := Op.load 34 _, type := _, pos := _, after := _, guard := _ } :: _) _ _; refine wpList_load_rowG (by rfl) 34 (.tmp 14) rfl wa0.heap.size rfl z34 34 _ r14 Tryz.underlying34 rfl s34 ?_) | (guard_target =~ wpList _ _ _ ({ dst := _, op := Op.build 34 _, type := _, pos := _, after := _, guard := _ } :: _) _ _; refine wpList_build_noneG (by rfl) 34 rfl z34 h34 ?_) | (go_at_call 11; refine c15.mono ?_; rintro e wh0 ⟨rfl, th⟩; have HTh0 := shut (HTg0.out.then_no th); clear c15 th r14; obtain ⟨_, _, _, _, r15, _, _⟩ := HRe0.out wh0 HTh0.out; have c16 := C16.out wh0) | (guard_target =~ wpList _ _ _ ({ dst := _, op := Op.load 32 _, type := _, pos := _, after := _, guard := _ } :: _) _ _; refine wpList_load_rowG (by rfl) 32 (.tmp 15) rfl (wa0.heap.size + 1) rfl z32 32 _ r15 Tryz.underlying32 rfl s32 ?_) | (guard_target =~ wpList _ _ _ ({ dst := _, op := Op.build 32 _, type := _, pos := _, after := _, guard := _ } :: _) _ _; refine wpList_build_noneG (by rfl) 32 rfl z32 h32 ?_) | (go_at_call 12; refine c16.mono ?_; rintro e wi0 ⟨rfl, ti⟩; have HTi0 := shut (HTh0.out.then_no ti); clear c16 ti r15; obtain ⟨_, _, _, _, _, q0, q13⟩ := HRe0.out wi0 HTi0.out))
  clear q0 q13 HQ
  have HTsi0 := shut (HTse0.out.then_no HTi0.out)
  have c17 := from17 wi0 none 1
  have e71 := fun f c W => neq71 f c W
  go_upto_region 16 with (go_at_call 13; refine c17.mono ?_; rintro e wx ⟨rfl, hwx⟩; have HWX0 := shut hwx; clear c17 hwx)
  have HTx0 : Shut (Turn no wi0 wx) := by rw [HWX0.out]; exact ((Turn.refl no wi0).alloc _).alloc _
  have f1 : wx.cell? ⟨wi0.heap.size + 1, 0, none⟩ = some (.int .u64 1) := by rw [HWX0.out]; exact (Row.newAt _ _ _ _ (by simp)).cell 0 _ rfl
  have f2 : wx.cell? ⟨wi0.heap.size, 0, none⟩ = some (.pointer none) := by rw [HWX0.out]; exact ((Row.new _ _ _).alloc _).cell 0 _ rfl
  have f3 : NoA wx (.pointer none) := (HN0.out _ (HTi0.out.then_no HTx0.out))
  clear e71
  go_wp2_with fail
  refine (wpIn_wide (n := 3)).1 ?_
  refine wpIn_rangeFunc_ownF rfl (by decide) (gf := 32) (lb := #[.pointer (some ⟨wi0.heap.size + 1, 0, none⟩), .pointer (some ⟨wi0.heap.size, 0, none⟩)]) rfl trivial (enters_of Tryz.func32 (by kernel_rfl) rfl)
    (from_stops _ wx _ _ _ f1 f2 f3 (fun x => x.elim) (fun _ _ => True)) (fun _ _ => trivial) (fun _ _ _ _ _ _ _ _ => trivial) (Below.refl _ _) (fun x => x.elim)
    (fun _ W => Turn no wx W) (fun _ _ _ => False) (fun s W W' row hs hg hr => hs.trans (S' := fun k => row = some k) ⟨hg.os, hg.tape, hg.output, hg.size, fun k hk q => hg.block k hk (fun e => q e.symm)⟩ (fun k hk q => absurd hk (by have := (hr k q).1; omega))) (fun _ _ _ _ _ h _ _ => h) (Turn.refl no wx) (fun x => x.elim) ?_ ?_ ?_ ?_
  · intro l x
    exact x.elim
  · intro l pre x
    exact x.elim
  · intro D0 xs wn0 hD0 hxs hT0 hK0
    have HD0 := shut hD0
    have HK0 := shut hK0
    have HTn0 := shut (HTsi0.out.then_no (HTx0.out.then_no hT0))
    have HTxn0 := shut hT0
    have HXS0 : Shut (wx.heap.size ≤ D0) := hD0
    clear hD0 hK0 hT0 hxs f1 f2 f3
    go_wp2_with fail
    try refine hK0 _ _ ?_
    refine wp_unroll 1 fun K1 hK1 => ?_
    have HL1 := shut (HL.out wn0 HTn0.out)
    have HR1 := shut (HR.out wn0 (HT03.out.then_no HTn0.out))
    obtain ⟨l0, l1, _⟩ := HL1.out
    obtain ⟨_, _, _, _, x1⟩ := HR1.out
    have c10 := load10 wn0 (.pointer (some ⟨w2.heap.size, 0, none⟩)) h (HL1.out.2.2)
    rw [HZ34.out, HZ32.out] at c10
    go_upto_region 11 with (first | (go_at_call 6; refine c10.mono ?_; rintro e wa1 ⟨rfl, ta⟩; have HTa1 := shut ta; clear ta c10 l0 l1 x1) | (refine wpList_store_anyN rfl rfl 34 (.tmp 14) (.tmp 66) rfl wa1.heap.size z34 rfl rfl 34 _ ((Row.newAt wa1 Tryz.zeroCells34 34 wa1.heap.size rfl).alloc _) s34 (by rw [HZ34.out]) o34 ?_; intro wb R2 T2; have B2 := (Row.newAt (wa1.alloc (.cells Tryz.zeroCells34 34)) #[.int .u64 0, .int .i64 0, .int .u8 0, .int .u8 0, .int .u8 0, .int .u8 0, .int .u8 0, .int .u8 0, .int .u8 0, .int .u8 0, .int .u8 0, .int .u8 0, .int .u8 0, .int .u8 0, .int .u8 0, .int .u8 0, .int .u8 0, .int .u8 0, .int .u8 0, .int .u8 0, .int .u8 0, .int .u8 0, .int .u8 0, .int .u8 0, .int .u8 0, .int .u8 0, .int .u8 0, .int .u8 0, .int .u8 0, .int .u8 0, .int .u8 0, .int .u8 0, .int .u8 0, .int .u8 0, .slice none 0 0] 32 (wa1.heap.size + 1) (by simp)).turn T2 (fun q => by have q : wa1.heap.size + 1 = wa1.heap.size := q; omega); have HT2 : Shut (Turn no wa1 wb) := (((Turn.refl no wa1).alloc _).alloc _).trans T2 (fun k hk q => by have q : k = wa1.heap.size := q; exact absurd hk (by omega)); clear T2) | (refine wpList_store_anyN rfl rfl 32 (.tmp 15) (.tmp 67) rfl (wa1.heap.size + 1) z32 rfl rfl 32 _ B2 s32 (by rw [← HZL.out]) o32 ?_; intro wc1 R3 T3; have HR14_1 := shut (R2.turn T3 (fun q => by have q : wa1.heap.size = wa1.heap.size + 1 := q; omega)); have HR15_1 := shut R3; have HTc1 : Shut (Turn no wn0 wc1) := HTa1.out.then_no (HT2.out.trans T3 (fun k hk q => by have q : k = wa1.heap.size + 1 := q; exact absurd hk (by omega))); clear T3 R2 R3 B2 HT2))
    have c11 := noted11 wc1 (.pointer (some ⟨w2.heap.size, 0, none⟩)) ((HL1.out.2.2.turn HTc1.out))
    rw [HZ47.out] at c11
    go_upto_region 12 with (first | (go_at_call 7; refine c11.mono ?_; rintro e wd1 ⟨rfl, td⟩; have HTd1 := shut td; clear td c11) | (refine wpList_store_anyN rfl rfl 47 (.tmp 17) (.tmp 72) rfl wd1.heap.size z47 rfl rfl 47 _ (Row.new wd1 _ 47) s47 (by rw [← HZM.out]) o47 ?_; intro we1 R3 T3; have HR17_1 := shut R3; have HTe1 : Shut (Turn no wc1 we1) := HTd1.out.then_no (((Turn.refl no wd1).alloc _).trans T3 (fun k hk q => by have q : k = wd1.heap.size := q; exact absurd hk (by omega))); clear T3 R3))
    have HTse1 := shut (HTc1.out.then_no HTe1.out)
    have HN1 : Shut (∀ W, Turn no we1 W → NoA W (.pointer (some ⟨w2.heap.size, 0, none⟩))) := fun W q => (HL1.out.2.2.turn (HTse1.out.then_no q))
    have HRe1 : Shut (∀ W, Turn no we1 W → Row W w.heap.size B 34 ∧ Row W (w.heap.size + 1) C 32 ∧ Row W (w.heap.size + 2) S 47 ∧ Row W wa1.heap.size z34 34 ∧ Row W (wa1.heap.size + 1) z32 32 ∧ W.cell? ⟨wd1.heap.size, 0, none⟩ = some (.string ⟨#[]⟩) ∧ W.cell? ⟨wd1.heap.size, 13, none⟩ = some (.int .u64 0)) := fun W q =>
      have a := HR1.out
      have t := HTse1.out.then_no q
      have r17 := HR17_1.out.turn q (fun q => q)
      ⟨a.1.turn t (fun q => q), a.2.1.turn t (fun q => q), a.2.2.1.turn t (fun q => q), HR14_1.out.turn (HTe1.out.then_no q) (fun q => q), HR15_1.out.turn (HTe1.out.then_no q) (fun q => q), r17.cell 0 _ HZ0.out, r17.cell 13 _ HZ13.out⟩
    obtain ⟨rB, rC, _, _, _, _, _⟩ := HRe1.out we1 (Turn.refl no _)
    have c12 := head12' we1 (.pointer (some ⟨w2.heap.size, 0, none⟩)) (HN1.out _ (Turn.refl no _))
    have c13 := save13 we1 (.pointer (some ⟨w2.heap.size, 0, none⟩)) B C (HN1.out _ (Turn.refl no _))
    have HQ : Shut True := trivial
    go_upto_region 14 with (first | (go_at_call 8; refine c12.mono ?_; rintro e wx ⟨rfl, rfl⟩; clear c12) | (guard_target =~ wpList _ _ _ ({ dst := _, op := Op.load 34 _, type := _, pos := _, after := _, guard := _ } :: _) _ _; refine wpList_load_rowG (by rfl) 34 (.tmp 3) rfl w.heap.size rfl B 34 _ rB Tryz.underlying34 rfl hBi ?_) | (guard_target =~ wpList _ _ _ ({ dst := _, op := Op.load 32 _, type := _, pos := _, after := _, guard := _ } :: _) _ _; refine wpList_load_rowG (by rfl) 32 (.tmp 4) rfl (w.heap.size + 1) rfl C 32 _ rC Tryz.underlying32 rfl hCi ?_) | (go_at_call 9; refine c13.mono ?_; rintro e wf1 ⟨rfl, tf⟩; have HTf1 := shut tf; clear c13 tf rB rC; obtain ⟨_, _, rS, _, _, _, _⟩ := HRe1.out wf1 HTf1.out; have c14 := note14 wf1 (.pointer (some ⟨w2.heap.size, 0, none⟩)) S (HN1.out _ HTf1.out)) | (go_at_call 5; refine (num9' _ _).mono ?_; rintro e wx ⟨rfl, rfl⟩) | (guard_target =~ wpList _ _ _ ({ dst := _, op := Op.load 47 _, type := _, pos := _, after := _, guard := _ } :: _) _ _; refine wpList_load_rowG (by rfl) 47 (.tmp 5) rfl (w.heap.size + 2) rfl S 47 _ rS Tryz.underlying47 rfl hSi ?_) | (go_at_call 10; refine c14.mono ?_; rintro e wg1 ⟨rfl, tg⟩; have HTg1 := shut (HTf1.out.then_no tg); clear c14 tg rS; obtain ⟨_, _, _, r14, _, _, _⟩ := HRe1.out wg1 HTg1.out; have c15 := C15.out wg1) | (guard_target =~ wpList _ _ _ ({ dst := _, op := Op.load 34 _, type := _, pos := _, after := _, guard := _ } :: _) _ _; refine wpList_load_rowG (by rfl) 34 (.tmp 14) rfl wa1.heap.size rfl z34 34 _ r14 Tryz.underlying34 rfl s34 ?_) | (guard_target =~ wpList _ _ _ ({ dst := _, op := Op.build 34 _, type := _, pos := _, after := _, guard := _ } :: _) _ _; refine wpList_build_noneG (by rfl) 34 rfl z34 h34 ?_) | (go_at_call 11; refine c15.mono ?_; rintro e wh1 ⟨rfl, th⟩; have HTh1 := shut (HTg1.out.then_no th); clear c15 th r14; obtain ⟨_, _, _, _, r15, _, _⟩ := HRe1.out wh1 HTh1.out; have c16 := C16.out wh1) | (guard_target =~ wpList _ _ _ ({ dst := _, op := Op.load 32 _, type := _, pos := _, after := _, guard := _ } :: _) _ _; refine wpList_load_rowG (by rfl) 32 (.tmp 15) rfl (wa1.heap.size + 1) rfl z32 32 _ r15 Tryz.underlying32 rfl s32 ?_) | (guard_target =~ wpList _ _ _ ({ dst := _, op := Op.build 32 _, type := _, pos := _, after := _, guard := _ } :: _) _ _; refine wpList_build_noneG (by rfl) 32 rfl z32 h32 ?_) | (go_at_call 12; refine c16.mono ?_; rintro e wi1 ⟨rfl, ti⟩; have HTi1 := shut (HTh1.out.then_no ti); clear c16 ti r15; obtain ⟨_, _, _, _, _, q0, q13⟩ := HRe1.out wi1 HTi1.out))
    clear q0 q13 HQ
    have HTsi1 := shut (HTse1.out.then_no HTi1.out)
    have c17 := from17 wi1 (some ⟨w2.heap.size, 0, none⟩) 1
    have e71 := fun f c W => neq71 f c W
    go_upto_region 16 with (go_at_call 13; refine c17.mono ?_; rintro e wx ⟨rfl, hwx⟩; have HWX1 := shut hwx; clear c17 hwx)
    have HTx1 : Shut (Turn no wi1 wx) := by rw [HWX1.out]; exact ((Turn.refl no wi1).alloc _).alloc _
    have f1 : wx.cell? ⟨wi1.heap.size + 1, 0, none⟩ = some (.int .u64 1) := by rw [HWX1.out]; exact (Row.newAt _ _ _ _ (by simp)).cell 0 _ rfl
    have f2 : wx.cell? ⟨wi1.heap.size, 0, none⟩ = some (.pointer (some ⟨w2.heap.size, 0, none⟩)) := by rw [HWX1.out]; exact ((Row.new _ _ _).alloc _).cell 0 _ rfl
    have f3 : NoA wx (.pointer (some ⟨w2.heap.size, 0, none⟩)) := (HN1.out _ (HTi1.out.then_no HTx1.out))
    clear e71
    go_wp2_with fail
    refine (wpIn_wide (n := 3)).1 ?_
    refine wpIn_rangeFunc_ownF rfl (by decide) (gf := 32) (lb := #[.pointer (some ⟨wi1.heap.size + 1, 0, none⟩), .pointer (some ⟨wi1.heap.size, 0, none⟩)]) rfl trivial (enters_of Tryz.func32 (by kernel_rfl) rfl)
      (from_stops _ wx _ _ _ f1 f2 f3 (fun x => x.elim) (fun _ _ => True)) (fun _ _ => trivial) (fun _ _ _ _ _ _ _ _ => trivial) (Below.refl _ _) (fun x => x.elim)
      (fun _ W => Turn no wx W) (fun _ _ _ => False) (fun s W W' row hs hg hr => hs.trans (S' := fun k => row = some k) ⟨hg.os, hg.tape, hg.output, hg.size, fun k hk q => hg.block k hk (fun e => q e.symm)⟩ (fun k hk q => absurd hk (by have := (hr k q).1; omega))) (fun _ _ _ _ _ h _ _ => h) (Turn.refl no wx) (fun x => x.elim) ?_ ?_ ?_ ?_
    · intro l x
      exact x.elim
    · intro l pre x
      exact x.elim
    · intro D1 xs wn1 hD1 hxs hT1 hK1
      have HD1 := shut hD1
      have HK1 := shut hK1
      have HTn1 := shut (HTsi1.out.then_no (HTx1.out.then_no hT1))
      have HTxn1 := shut hT1
      have HXS1 : Shut (wx.heap.size ≤ D1) := hD1
      clear hD1 hK1 hT1 hxs f1 f2 f3
      go_wp2_with fail
      try refine hK1 _ _ ?_
      refine wp_unroll 0 fun K2 hK2 => ?_
      have HTf := shut (HTn0.out.then_no HTn1.out)
      obtain ⟨_, _, _, rr, _⟩ := HR.out wn1 (HT03.out.then_no HTf.out)
      have rc : wn1.cell? ⟨w.heap.size + 1 + 1 + 1, 0, none⟩ = some (.bool false) := rr.cell 0 _ rfl
      have rf : wn1.frozen? ⟨w.heap.size + 1 + 1 + 1, 0, none⟩ = false := frozen_of_row _ _ _ _ 4 rr
      go_wp2_with fail
      have hn1 : wn0.heap.size ≤ wx.heap.size := (HTsi1.out.then_no HTx1.out).size
      have hd0 : D0 < wn0.heap.size := (Array.getElem?_eq_some_iff.1 HK0.out).1
      exact leaves rfl _ w wn1 (w.heap.size + 1 + 1 + 1) D0 D1 rfl (HT0.out.then_no (HT03.out.then_no HTf.out)) (by omega) rc ((HTn1.out.block D0 hd0 (fun q => q)).trans HK0.out) HK1.out (Nat.lt_of_lt_of_le hd0 (Nat.le_trans hn1 HD1.out)) (by have h1 := HD0.out; have h2 := HT0.out.size; have h3 := HT03.out.size; have h4 := HTsi0.out.size; have h5 := HTx0.out.size; omega)
    · intro D c pre W _ q
      exact q.elim
  · intro D c pre W _ q
    exact q.elim
end Go.Proofs.YtghffngipcbkoaaGreatDoor
