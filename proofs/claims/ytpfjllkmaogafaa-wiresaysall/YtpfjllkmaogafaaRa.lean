/- R1, R2, R3 in one. -/
import Derived.Test.YtpfjllkmaogafaaW14
import Derived.Test.YtpfjllkmaogafaaY6
import Derived.Test.YtpfjllkmaogafaaU0
import Derived.Laws.CopyRow
import Derived.Laws.IdiomCopy
/- Reads, with an error or without: the program's, the document's. -/
namespace Go.Proofs.Ytpfjllkmaogafaa
open Go.RowKit
set_option linter.unusedVariables false

/-- What is read, where it stands then, its error: of a byte, a number, a text, so many bytes. -/
def gB (bs : List UInt8) (i : Nat) (e : Int) : Nat × Nat × Int := if e = 0 then rfix bs i 1 else (0, i, e)
def gV (bs : List UInt8) (i : Nat) (e : Int) : Nat × Nat × Int := if e = 0 then rvar bs i else (0, i, e)
def gT (bs : List UInt8) (i : Nat) (e m : Int) : List UInt8 × Nat × Int := if e = 0 then rbytes bs i m else ([], i, e)
def gR (bs : List UInt8) (i : Nat) (e n : Int) : List UInt8 × Nat × Int := if e = 0 then rraw bs i n else ([], i, e)
section
variable {w : World} {p : Nat} {v : Value} {bs : List UInt8} {i : Nat} {e0 : Int}
theorem byte88 (h : Rd w p v bs i e0) : Calls Try.prog 88 #[.pointer (some ⟨p, 0, none⟩)] w fun e w' => e = .returned (.int .u8 (gB bs i e0).1) ∧ Rd w' p v bs (gB bs i e0).2.1 (gB bs i e0).2.2 ∧ Turn (fun k => k = p) w w' := by
  unfold gB
  by_cases he : e0 = 0
  · subst he
    rw [if_pos rfl]
    unfold rfix
    by_cases h1 : bs.length - i < 1
    · rw [if_pos h1]
      exact byte_bad w p v bs i h h1
    · rw [if_neg h1]
      exact byte_good w p v bs i h (by omega)
  · rw [if_neg he]
    refine (rbyte_err w _ e0 h.errs (by simpa using he)).mono ?_
    rintro e w' ⟨rfl, t⟩
    exact ⟨rfl, h.turn_no t, t.of_no⟩
theorem var91 (h : Rd w p v bs i e0) (hle : bs.length ≤ 140737488355328) : Calls Try.prog 91 #[.pointer (some ⟨p, 0, none⟩)] w fun e w' => e = .returned (.int .u64 (gV bs i e0).1) ∧ Rd w' p v bs (gV bs i e0).2.1 (gV bs i e0).2.2 ∧ Turn (fun k => k = p) w w' := by
  unfold gV
  by_cases he : e0 = 0
  · subst he
    rw [if_pos rfl]
    exact rvar_made w p v bs i hle h
  · rw [if_neg he]
    refine (rvar_err w _ e0 h.errs (by simpa using he)).mono ?_
    rintro e w' ⟨rfl, t⟩
    exact ⟨rfl, h.turn_no t, t.of_no⟩
theorem text89 (h : Rd w p v bs i e0) (m : Int) (hb : m < 9223372036854775808) (hle : bs.length ≤ 140737488355328) : Calls Try.prog 89 #[.pointer (some ⟨p, 0, none⟩), .int .i64 m] w fun e w' => e = .returned (.string ⟨(gT bs i e0 m).1.toArray⟩) ∧ Rd w' p v bs (gT bs i e0 m).2.1 (gT bs i e0 m).2.2 ∧ Turn (fun k => k = p) w w' := by
  unfold gT
  by_cases he : e0 = 0
  · subst he
    rw [if_pos rfl]
    exact rtext_made w p v bs i m hb hle h
  · rw [if_neg he]
    refine (rtext_err w _ m e0 h.errs (by simpa using he)).mono ?_
    rintro e w' ⟨rfl, t⟩
    exact ⟨rfl, h.turn_no t, t.of_no⟩
theorem raw124 (h : Rd w p v bs i e0) (n : Int) (hb : n < 9223372036854775808) (hle : bs.length ≤ 140737488355328) : Calls Try.prog 124 #[.pointer (some ⟨p, 0, none⟩), .int .i64 n] w fun e w' => ∃ v', e = .returned v' ∧ Bytes w p v bs (gR bs i e0 n) v' w' := by
  unfold gR
  by_cases he : e0 = 0
  · subst he
    rw [if_pos rfl]
    exact rraw_made w p v bs i n hb hle h
  · rw [if_neg he]
    refine (rraw_err w _ n e0 h.errs (by simpa using he)).mono ?_
    rintro e w' ⟨rfl, t⟩
    exact ⟨_, rfl, Own.nil _ _, fun g q => (by cases q), h.turn_no t, t.of_no⟩
end
section
variable {w : World} {q : Nat} {v : Value} {bs : List UInt8} {i : Nat} {e0 : Int}
theorem byte99 (h : Rq w q v bs i e0) (hle : bs.length ≤ 140737488355328) : Calls Try.prog 99 #[.pointer (some ⟨q, 0, none⟩)] w (Nu w q v bs (.int .u8 (gB bs i e0).1) (gB bs i e0).2.1 (gB bs i e0).2.2) := by
  unfold gB
  by_cases he : e0 = 0
  · subst he
    rw [if_pos rfl]
    unfold rfix
    by_cases h1 : bs.length - i < 1
    · rw [if_pos h1]
      exact byte69_cut h h1 hle
    · rw [if_neg h1]
      exact byte69_ok h (by have := h.le; omega) hle
  · rw [if_neg he]
    exact byte69_err e0 (by simpa using he) h
theorem var101 (h : Rq w q v bs i e0) (hle : bs.length ≤ 140737488355328) : Calls Try.prog 101 #[.pointer (some ⟨q, 0, none⟩)] w (Nu w q v bs (.int .u64 (gV bs i e0).1) (gV bs i e0).2.1 (gV bs i e0).2.2) := by
  unfold gV
  by_cases he : e0 = 0
  · subst he
    rw [if_pos rfl]
    exact var73 w q v bs i h hle
  · rw [if_neg he]
    exact var73_err e0 (by simpa using he) h
theorem text100 (h : Rq w q v bs i e0) (m : Int) (hb : m < 9223372036854775808) (hle : bs.length ≤ 140737488355328) : Calls Try.prog 100 #[.pointer (some ⟨q, 0, none⟩), .int .i64 m] w (Nu w q v bs (.string ⟨(gT bs i e0 m).1.toArray⟩) (gT bs i e0 m).2.1 (gT bs i e0 m).2.2) := by
  unfold gT
  by_cases he : e0 = 0
  · subst he
    rw [if_pos rfl]
    exact text76 h m hb hle
  · rw [if_neg he]
    exact text76_err e0 (by simpa using he) h m
theorem raw127 (h : Rq w q v bs i e0) (n : Int) (hb : n < 9223372036854775808) (hle : bs.length ≤ 140737488355328) : Calls Try.prog 127 #[.pointer (some ⟨q, 0, none⟩), .int .i64 n] w (By w q v bs (gR bs i e0 n)) := by
  unfold gR
  by_cases he : e0 = 0
  · subst he
    rw [if_pos rfl]
    exact raw74 h n hb hle
  · rw [if_neg he]
    exact raw74_err e0 (by simpa using he) h n
end
end Go.Proofs.Ytpfjllkmaogafaa

/- Numbers that are read as ints: the program's readInt, the document's small. -/
namespace Go.Proofs.Ytpfjllkmaogafaa
open Go.RowKit
set_option linter.unusedVariables false

theorem gV_lt (bs : List UInt8) (i : Nat) (e : Int) (hi : i ≤ bs.length) : (gV bs i e).1 < 18446744073709551616 := by
  unfold gV
  split
  · obtain ⟨x, j, er, hr, hx, _⟩ := rvar_facts bs i hi
    rw [hr]
    show x < _
    omega
  · simp
def cap31 (n : Nat) : Nat := if n ≤ 2147483647 then n else 2147483647
set_option maxRecDepth 100000 in
theorem small102 (w : World) (n : Nat) (hn : n < 18446744073709551616) : Calls Try.prog 102 #[.int .u64 n] w fun e w' => e = .returned (.int .i64 (cap31 n)) ∧ w' = w := by
  unfold cap31
  by_cases h : n ≤ 2147483647
  · rw [if_pos h]
    have h1 : min (n : Int) 2147483647 = (n : Int) := by omega
    have h2 : IntKind.i64.wrap (n : Int) = (n : Int) := by rw [IntKind.wrap_i64]; omega
    have h3 : (n : Int) ≤ 2147483647 := by omega
    clear hn h
    go_enter Try.func102, Try.ntmps102
    go_wp2_with fail
    go_ret
    exact ⟨rfl, rfl⟩
  · rw [if_neg h]
    have h1 : min (n : Int) 2147483647 = 2147483647 := by omega
    have h3 : ¬ (n : Int) ≤ 2147483647 := by omega
    clear hn h
    go_enter Try.func102, Try.ntmps102
    go_wp2_with fail
    go_ret
    exact ⟨rfl, rfl⟩
set_option maxRecDepth 100000 in
theorem int92 {w : World} {p : Nat} {v : Value} {bs : List UInt8} {i : Nat} {e0 : Int} (h : Rd w p v bs i e0) (hle : bs.length ≤ 140737488355328) : Calls Try.prog 92 #[.pointer (some ⟨p, 0, none⟩)] w fun e w' => e = .returned (.int .i64 (cap31 (gV bs i e0).1)) ∧ Rd w' p v bs (gV bs i e0).2.1 (gV bs i e0).2.2 ∧ Turn (fun k => k = p) w w' := by
  have C := var91 h hle
  have hn := gV_lt bs i e0 h.le
  unfold cap31
  generalize (gV bs i e0).2.1 = j at *
  generalize (gV bs i e0).2.2 = er at *
  generalize (gV bs i e0).1 = n at *
  by_cases hq : n ≤ 2147483647
  · rw [if_pos hq]
    have h1 : min (n : Int) 2147483647 = (n : Int) := by omega
    have h2 : IntKind.i64.wrap (n : Int) = (n : Int) := by rw [IntKind.wrap_i64]; omega
    have h3 : (n : Int) ≤ 2147483647 := by omega
    clear hn hq hle
    go_enter Try.func92, Try.ntmps92
    go_wp2_with (go_at_call 91; refine C.mono ?_; rintro e w1 ⟨rfl, k1, k2⟩)
    go_ret
    exact ⟨rfl, k1, k2⟩
  · rw [if_neg hq]
    have h1 : min (n : Int) 2147483647 = 2147483647 := by omega
    have h3 : ¬ (n : Int) ≤ 2147483647 := by omega
    clear hn hq hle
    go_enter Try.func92, Try.ntmps92
    go_wp2_with (go_at_call 91; refine C.mono ?_; rintro e w1 ⟨rfl, k1, k2⟩)
    go_ret
    exact ⟨rfl, k1, k2⟩
theorem none90 (w : World) (n : Int) : Calls Try.prog 90 #[.int .i64 n] w fun e w' => e = .returned (.slice none 0 0) ∧ w' = w := by
  go_enter Try.func90, Try.ntmps90
  go_wp2_with fail
  go_ret
  exact ⟨rfl, rfl⟩
end Go.Proofs.Ytpfjllkmaogafaa

/- Arrays that are read: readHash of both sides, readSeal. -/
namespace Go.Proofs.Ytpfjllkmaogafaa
open Go.RowKit
set_option linter.unusedVariables false

def over (cur : Array Value) (o : Nat) (cs : List Value) : Array Value := (cur.toList.take o ++ cs ++ cur.toList.drop (o + cs.length)).toArray
theorem run_copy_over (w : World) (ty : TypeId) (g o dLen dCap : Nat) (v : Value) (bs : List UInt8) (cur : Array Value) (t : TypeId) (hg : Row w g cur t) (hb : Bs w v bs) (hfit : o + min bs.length dLen ≤ cur.size) :
    ∃ w', (Builtin.copy_ #[36, 36] ty #[.slice (some ⟨g, o, none⟩) dLen dCap, v]).run Try.prog w = .ok (.int .i64 ((min bs.length dLen : Nat) : Int)) w' ∧ Row w' g (over cur o ((bs.take (min bs.length dLen)).map bv)) t ∧ Turn (fun k => k = g) w w' := by
  obtain ⟨a, cap, rfl⟩ := hb.slice
  by_cases h0 : min bs.length dLen = 0
  · refine ⟨w, ?_, ?_, Turn.refl _ _⟩
    · have := run_copy_none (P := Try.prog) w 36 36 ty 5 (some ⟨g, o, none⟩) a dLen dCap bs.length cap Try.underlying36 size5 h0
      rw [h0]
      exact this
    · rw [h0]
      simpa [over] using hg
  · rcases hb with ⟨h, rfl⟩ | ⟨a', c', h, h1, h2, h3⟩
    · simp at h0
    · cases h
      have hl : ((bs.take (min bs.length dLen)).map bv).length = min bs.length dLen := by simp
      have := run_copy_row (P := Try.prog) w 36 36 ty 5 g o dLen dCap a' bs.length cap cur t ((bs.take (min bs.length dLen)).map bv) Try.underlying36 size5 hg hl
        (fun j u hu => by
          rw [List.getElem?_map, List.getElem?_take] at hu
          split at hu
          · cases hq : bs[j]? with
            | none => rw [hq] at hu; cases hu
            | some x => rw [hq] at hu; cases hu; exact h3 j x hq
          · cases hu) (by rw [hl]; exact hfit) (fun u hu => by obtain ⟨x, _, rfl⟩ := List.mem_map.1 hu; rfl)
      refine ⟨_, ?_, setRow_heap w g cur _ t (0, 0) hg, (Turn.refl _ _).setRow g _ (fun _ => rfl)⟩
      rw [this]
      unfold over goInt
      rw [hl]
theorem wp_copy_run {P : Program} {o : Oper} {a : Act} {w : World} {K : Act → World → Prop} {Q : Exit → Act → World → Prop} (s x : Operand) {t tx : TypeId}
    (ho : o.op = .call { callee := .builtin .copy, args := #[s, x], argTypes := #[t, tx] }) (v xv : Value) (hs : a.eval s = v) (hx : a.eval x = xv) {v' : Value} {w' : World}
    (hr : (Builtin.copy_ #[t, tx] o.type #[v, xv]).run P w = .ok v' w') (h : K (a.put o.dst v') w') : Oper.wp P o a w K Q := by
  unfold Oper.wp execOp
  simp only [ho, resolve, invoke, builtin, Sem.run_bind, Sem.run_pure, Result.andThen_ok, List.map_toArray, List.map_cons, List.map_nil, hs, hx, hr]
  exact h
/-- As many bytes, with zeros behind. -/
def pad (n : Nat) (l : List UInt8) : List UInt8 := l ++ List.replicate (n - l.length) 0
theorem pad_len (n : Nat) (l : List UInt8) (h : l.length ≤ n) : (pad n l).length = n := by simp [pad]; omega
theorem over_pad (n : Nat) (l : List UInt8) (h : l.length ≤ n) : over (List.replicate n (bv 0)).toArray 0 ((l.take (min l.length n)).map bv) = ((pad n l).map bv).toArray := by
  rw [Nat.min_eq_left h, List.take_length]
  unfold over pad
  simp
theorem pad_one (n : Nat) (l : List UInt8) : ((pad n l).map bv).toArray.all (·.oneCell') = true := by simp [bv, Value.oneCell']
theorem gR_len (bs : List UInt8) (i : Nat) (e : Int) (n : Nat) : (gR bs i e n).1.length ≤ n := by
  unfold gR rraw
  split
  · split
    · simp
    · rw [Int.toNat_natCast]
      split
      · simp
      · simp; omega
  · simp
theorem sl29 (W : World) (a : Addr) : (Instr.sliceAt 29 (.pointer (some a)) none none none).run Try.prog W = .ok (.slice (some a) 32 32) W := by
  rw [run_sliceAt_array_all (P := Try.prog) W 29 a (by kernel_rfl)]
  rw [show (sizeOf (Try.prog.elem 29)).run Try.prog W = .ok 1 W by kernel_rfl, show Try.prog.arrayLen 29 = 32 by kernel_rfl]
  simp [slicedAt, Addr.add_zero']
theorem sl25 (W : World) (a : Addr) : (Instr.sliceAt 25 (.pointer (some a)) none none none).run Try.prog W = .ok (.slice (some a) 16 16) W := by
  rw [run_sliceAt_array_all (P := Try.prog) W 25 a (by kernel_rfl)]
  rw [show (sizeOf (Try.prog.elem 25)).run Try.prog W = .ok 1 W by kernel_rfl, show Try.prog.arrayLen 25 = 16 by kernel_rfl]
  simp [slicedAt, Addr.add_zero']

set_option maxRecDepth 100000 in
set_option maxHeartbeats 1000000 in
theorem hash93 {w : World} {p : Nat} {v : Value} {bs : List UInt8} {i : Nat} {e0 : Int} (h : Rd w p v bs i e0) (hle : bs.length ≤ 140737488355328) : Calls Try.prog 93 #[.pointer (some ⟨p, 0, none⟩)] w fun e w' => e = .returned (.agg ((pad 32 (gR bs i e0 32).1).map bv).toArray) ∧ Rd w' p v bs (gR bs i e0 32).2.1 (gR bs i e0 32).2.2 ∧ Turn (fun k => k = p) w w' := by
  have hlt := h.lt
  have hL : (gR bs i e0 32).1.length ≤ 32 := gR_len bs i e0 32
  have C := fun W (hW : Rd W p v bs i e0) => raw124 hW 32 (by omega) hle
  generalize gR bs i e0 32 = r at *
  have hSs : ((pad 32 r.1).map bv).toArray.size = 32 := by simp [pad_len 32 r.1 hL]
  have hSi : (Try.prog.info? 29).map (·.size) = some ((pad 32 r.1).map bv).toArray.size := by rw [hSs]; exact size24
  have hSo := pad_one 32 r.1
  go_enter Try.func93, Try.ntmps93
  go_wp2_with fail
  obtain ⟨Z, hZ, hZ1⟩ : ∃ Z : Array Value, Z = #[.int .u8 0, .int .u8 0, .int .u8 0, .int .u8 0, .int .u8 0, .int .u8 0, .int .u8 0, .int .u8 0, .int .u8 0, .int .u8 0, .int .u8 0, .int .u8 0, .int .u8 0, .int .u8 0, .int .u8 0, .int .u8 0, .int .u8 0, .int .u8 0, .int .u8 0, .int .u8 0, .int .u8 0, .int .u8 0, .int .u8 0, .int .u8 0, .int .u8 0, .int .u8 0, .int .u8 0, .int .u8 0, .int .u8 0, .int .u8 0, .int .u8 0, .int .u8 0] ∧ Z = (List.replicate 32 (bv 0)).toArray := ⟨_, rfl, rfl⟩
  rw [← hZ]
  clear hZ
  have hZs : Z.size = 32 := by rw [hZ1]; rfl
  have hA := Row.new w Z 29
  have hB := Row.newAt (w.alloc (.cells Z 29)) Z 29 (w.heap.size + 1) (by simp)
  have hA2 := hA.alloc (.cells Z 29)
  have T2 : Turn no w ((w.alloc (.cells Z 29)).alloc (.cells Z 29)) := ((Turn.refl no w).alloc _).alloc _
  have hsz : ((w.alloc (.cells Z 29)).alloc (.cells Z 29)).heap.size = w.heap.size + 2 := by simp
  clear hA
  generalize (w.alloc (.cells Z 29)).alloc (.cells Z 29) = w2 at *
  have hR2 := h.turn_no T2
  have hown : ∀ b, v.ownBlock = some b → b < w.heap.size := fun b q => h.own.lt q
  generalize hg : w.heap.size = g at *
  have HC : Hid (∀ W, Rd W p v bs i e0 → Calls Try.prog 124 #[.pointer (some ⟨p, 0, none⟩), .int .i64 32] W fun e w' => ∃ v', e = .returned v' ∧ Own w' 5 v' (r.1.map bv) ∧ (∀ g, v'.ownBlock = some g → W.heap.size ≤ g) ∧ Rd w' p v bs r.2.1 r.2.2 ∧ Turn (fun k => k = p) W w') := C
  have HR2 : Hid (Rd w2 p v bs i e0) := hR2
  clear C hR2
  refine wp_region_held_drew (S := fun W => Turn (fun k => k = p ∨ k = g + 1) w2 W) (by kernel_rfl) (Turn.refl _ w2).drew (fun hHeld => ?_)
  refine' wpAnyH_take (i := 0) (v := .slice (some ⟨g + 1, 0, none⟩) 32 32) rfl (by kernel_rfl) (by kernel_rfl) (by kernel_rfl) (fun _ _ _ h => h) (Or.inl ⟨by kernel_rfl, fun W hW => ?y1⟩) hHeld ?r1
  · go_simp
  refine' wpAnyH_take (i := 1) (v := .pointer (some ⟨p, 0, none⟩)) rfl (by kernel_rfl) (by kernel_rfl) (by kernel_rfl) (fun _ _ _ h => h) (Or.inl ⟨by kernel_rfl, fun W hW => ?y2⟩) hHeld ?r2
  · go_simp
  refine wpAnyH_ready (rs := [2]) (by kernel_rfl) (by simp) ?_
  refine AllReadyH.cons rfl (fun K hK => ?_) AllReadyH.nil
  go_simp
  refine (HC.out _ (HR2.out.turn_no (Turn.refl no w2).drew)).mono ?_
  rintro e w4 ⟨v', rfl, o4, b4, r4, t4⟩
  have t4' : Turn (fun k => k = p) w2 w4 := ((Turn.refl no w2).drew.of_no).trans t4 (fun _ _ q => q)
  have hs4 := t4'.size
  have hB4 := hB.turn t4' (fun q => by omega)
  have hA4 := hA2.turn t4' (fun q => by omega)
  refine hK.out _ _ (t4'.mono (fun _ _ q => .inl q)) (fun hHeld => ?_)
  clear hK
  obtain ⟨w5, hcp, R5, t5⟩ := run_copy_over w4 3 (g + 1) 0 32 32 v' r.1 Z 29 hB4 o4.bs (by omega)
  rw [hZ1, over_pad 32 r.1 hL] at R5
  have hA5 := hA4.turn t5 (fun q => by omega)
  have r5 := r4.turn t5 (fun k q e => by
    rcases q with q | q
    · omega
    · have := hown _ q; omega)
  have T5 : Turn (fun k => k = p ∨ k = g + 1) w2 w5 := (t4'.mono (fun _ _ q => .inl q)).trans t5 (fun _ _ q => .inr q)
  have TT : Turn (fun k => k = p) w w5 := (T2.of_no.trans T5 (S := fun k => k = p ∨ k = g + 1) (fun _ _ q => q)).mono (fun i hi q => by omega)
  clear HC HR2 o4 b4 r4 t4 t4' hB4 hA4 t5 hs4 T2 hA2 hB
  refine wpAnyH_ready (rs := [3]) (by kernel_rfl) (by simp) ?_
  refine AllReadyH.cons rfl (fun K hK => ?_) AllReadyH.nil
  rw [if_pos (by rfl)]
  refine wp_copy_run _ _ rfl _ _ rfl rfl hcp ?_
  refine hK.out _ _ T5 (fun hHeld => ?_)
  clear hK
  refine wpAnyH_done (by kernel_rfl) ?_ _
  generalize hSV : ((pad 32 r.1).map bv).toArray = SV at *
  go_wp2_with (first | (refine wpList_load_row rfl 29 (.tmp 3) rfl (g + 1) rfl 29 SV (0, 0) _ R5 Try.underlying29 rfl hSi ?_) | (refine wpList_store_row rfl 29 (.tmp 2) (.tmp 8) rfl g SV rfl rfl 29 Z hA5 hSi (by omega) hSo ?_))
  have hz' : (w5.setRow g SV).heap[g]? = some (.cells SV 29 (0, 0)) := setRow_heap _ _ _ _ _ _ hA5
  refine bodyPost_ret (v := .agg SV) ?_ rfl ⟨by rw [hSV], r5.turn (S := fun k => k = g) ((Turn.refl _ w5).setRow g SV (fun _ => rfl)) (fun k q e => ?_), TT.setRow _ _ (fun q => by omega)⟩
  · exact results_cell_row (P := Try.prog) Try.results93 _ _ g 29 SV (0, 0) _ rfl hz' Try.underlying29 rfl hSi
  · rcases q with q | q
    · omega
    · have := hown _ q; omega

set_option maxRecDepth 100000 in
set_option maxHeartbeats 1000000 in
theorem hash103 {w : World} {p : Nat} {v : Value} {bs : List UInt8} {i : Nat} {e0 : Int} (h : Rq w p v bs i e0) (hle : bs.length ≤ 140737488355328) : Calls Try.prog 103 #[.pointer (some ⟨p, 0, none⟩)] w fun e w' => e = .returned (.agg ((pad 32 (gR bs i e0 32).1).map bv).toArray) ∧ Rq w' p v bs (gR bs i e0 32).2.1 (gR bs i e0 32).2.2 ∧ Turn (fun k => k = p) w w' := by
  have hlt := h.lt
  have hL : (gR bs i e0 32).1.length ≤ 32 := gR_len bs i e0 32
  have C := fun W (hW : Rq W p v bs i e0) => raw127 hW 32 (by omega) hle
  generalize gR bs i e0 32 = r at *
  have hSs : ((pad 32 r.1).map bv).toArray.size = 32 := by simp [pad_len 32 r.1 hL]
  have hSi : (Try.prog.info? 29).map (·.size) = some ((pad 32 r.1).map bv).toArray.size := by rw [hSs]; exact size24
  have hSo := pad_one 32 r.1
  go_enter Try.func103, Try.ntmps103
  go_wp2_with fail
  obtain ⟨Z, hZ, hZ1⟩ : ∃ Z : Array Value, Z = #[.int .u8 0, .int .u8 0, .int .u8 0, .int .u8 0, .int .u8 0, .int .u8 0, .int .u8 0, .int .u8 0, .int .u8 0, .int .u8 0, .int .u8 0, .int .u8 0, .int .u8 0, .int .u8 0, .int .u8 0, .int .u8 0, .int .u8 0, .int .u8 0, .int .u8 0, .int .u8 0, .int .u8 0, .int .u8 0, .int .u8 0, .int .u8 0, .int .u8 0, .int .u8 0, .int .u8 0, .int .u8 0, .int .u8 0, .int .u8 0, .int .u8 0, .int .u8 0] ∧ Z = (List.replicate 32 (bv 0)).toArray := ⟨_, rfl, rfl⟩
  rw [← hZ]
  clear hZ
  have hZs : Z.size = 32 := by rw [hZ1]; rfl
  have hA := Row.new w Z 29
  have hB := Row.newAt (w.alloc (.cells Z 29)) Z 29 (w.heap.size + 1) (by simp)
  have hA2 := hA.alloc (.cells Z 29)
  have T2 : Turn no w ((w.alloc (.cells Z 29)).alloc (.cells Z 29)) := ((Turn.refl no w).alloc _).alloc _
  have hsz : ((w.alloc (.cells Z 29)).alloc (.cells Z 29)).heap.size = w.heap.size + 2 := by simp
  clear hA
  generalize (w.alloc (.cells Z 29)).alloc (.cells Z 29) = w2 at *
  have hR2 := h.turn_no T2
  have hown : ∀ b, v.ownBlock = some b → b < w.heap.size := fun b q => h.own.lt q
  generalize hg : w.heap.size = g at *
  have HC : Hid (∀ W, Rq W p v bs i e0 → Calls Try.prog 127 #[.pointer (some ⟨p, 0, none⟩), .int .i64 32] W fun e w' => ∃ v', e = .returned v' ∧ Own w' 5 v' (r.1.map bv) ∧ (∀ g, v'.ownBlock = some g → W.heap.size ≤ g) ∧ Rq w' p v bs r.2.1 r.2.2 ∧ Turn (fun k => k = p) W w') := C
  have HR2 : Hid (Rq w2 p v bs i e0) := hR2
  clear C hR2
  refine wp_region_held_drew (S := fun W => Turn (fun k => k = p ∨ k = g + 1) w2 W) (by kernel_rfl) (Turn.refl _ w2).drew (fun hHeld => ?_)
  refine' wpAnyH_take (i := 0) (v := .slice (some ⟨g + 1, 0, none⟩) 32 32) rfl (by kernel_rfl) (by kernel_rfl) (by kernel_rfl) (fun _ _ _ h => h) (Or.inl ⟨by kernel_rfl, fun W hW => ?y3⟩) hHeld ?r3
  · go_simp
  refine' wpAnyH_take (i := 1) (v := .pointer (some ⟨p, 0, none⟩)) rfl (by kernel_rfl) (by kernel_rfl) (by kernel_rfl) (fun _ _ _ h => h) (Or.inl ⟨by kernel_rfl, fun W hW => ?y4⟩) hHeld ?r4
  · go_simp
  refine wpAnyH_ready (rs := [2]) (by kernel_rfl) (by simp) ?_
  refine AllReadyH.cons rfl (fun K hK => ?_) AllReadyH.nil
  go_simp
  refine (HC.out _ (HR2.out.turn_no (Turn.refl no w2).drew)).mono ?_
  rintro e w4 ⟨v', rfl, o4, b4, r4, t4⟩
  have t4' : Turn (fun k => k = p) w2 w4 := ((Turn.refl no w2).drew.of_no).trans t4 (fun _ _ q => q)
  have hs4 := t4'.size
  have hB4 := hB.turn t4' (fun q => by omega)
  have hA4 := hA2.turn t4' (fun q => by omega)
  refine hK.out _ _ (t4'.mono (fun _ _ q => .inl q)) (fun hHeld => ?_)
  clear hK
  obtain ⟨w5, hcp, R5, t5⟩ := run_copy_over w4 3 (g + 1) 0 32 32 v' r.1 Z 29 hB4 o4.bs (by omega)
  rw [hZ1, over_pad 32 r.1 hL] at R5
  have hA5 := hA4.turn t5 (fun q => by omega)
  have r5 := r4.turn t5 (fun k q e => by
    rcases q with q | q
    · omega
    · have := hown _ q; omega)
  have T5 : Turn (fun k => k = p ∨ k = g + 1) w2 w5 := (t4'.mono (fun _ _ q => .inl q)).trans t5 (fun _ _ q => .inr q)
  have TT : Turn (fun k => k = p) w w5 := (T2.of_no.trans T5 (S := fun k => k = p ∨ k = g + 1) (fun _ _ q => q)).mono (fun i hi q => by omega)
  clear HC HR2 o4 b4 r4 t4 t4' hB4 hA4 t5 hs4 T2 hA2 hB
  refine wpAnyH_ready (rs := [3]) (by kernel_rfl) (by simp) ?_
  refine AllReadyH.cons rfl (fun K hK => ?_) AllReadyH.nil
  rw [if_pos (by rfl)]
  refine wp_copy_run _ _ rfl _ _ rfl rfl hcp ?_
  refine hK.out _ _ T5 (fun hHeld => ?_)
  clear hK
  refine wpAnyH_done (by kernel_rfl) ?_ _
  generalize hSV : ((pad 32 r.1).map bv).toArray = SV at *
  go_wp2_with (first | (refine wpList_load_row rfl 29 (.tmp 3) rfl (g + 1) rfl 29 SV (0, 0) _ R5 Try.underlying29 rfl hSi ?_) | (refine wpList_store_row rfl 29 (.tmp 2) (.tmp 8) rfl g SV rfl rfl 29 Z hA5 hSi (by omega) hSo ?_))
  have hz' : (w5.setRow g SV).heap[g]? = some (.cells SV 29 (0, 0)) := setRow_heap _ _ _ _ _ _ hA5
  refine bodyPost_ret (v := .agg SV) ?_ rfl ⟨by rw [hSV], r5.turn (S := fun k => k = g) ((Turn.refl _ w5).setRow g SV (fun _ => rfl)) (fun k q e => ?_), TT.setRow _ _ (fun q => by omega)⟩
  · exact results_cell_row (P := Try.prog) Try.results103 _ _ g 29 SV (0, 0) _ rfl hz' Try.underlying29 rfl hSi
  · rcases q with q | q
    · omega
    · have := hown _ q; omega
end Go.Proofs.Ytpfjllkmaogafaa
