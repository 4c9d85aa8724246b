/- made, On, Calls, isName, ready, find, fits. -/
import Derived.Test.YtcdogciacchigabM0
import Derived.LaidMore
import Derived.Laws.ResultCell
import Derived.Laws.Rows
import Derived.Deep.RegionHeld3
namespace Go.Proofs.Ytcdogciacchigab
open Go.RowKit Go.Maps
set_option linter.unusedVariables false

theorem eql22_same (a : Addr) (w : World) : (binOp .eql 34 (.pointer (some a)) (.pointer (some a))).run Try.prog w = .ok (.bool true) w := by
  obtain ⟨j, hj⟩ := Option.isSome_iff_exists.1 (show (Try.prog.info? 82).isSome = true by kernel_rfl)
  exact run_eql_ptr_same w a Try.underlying34 hj

theorem made30 (w : World) (p : Nat) (h0 : w.cell? ⟨p, 0, none⟩ = some (ptr p)) : Calls Try.prog 41 #[ptr p] w fun e w' => e = .returned (.bool true) ∧ w' = w := by
  unfold ptr at *
  have e1 := fun a w => eql22_same a w
  go_enter Try.func41, Try.ntmps41
  go_wp2_with fail
  go_ret
  exact ⟨rfl, rfl⟩

section
variable {w : World} {p : Nat} {K : Nat → Prop} {bf bt : Option Nat} {V : Nm → Value} {s : St}
theorem Dp.c0 (h : Dp w p K bf bt V s) : w.cell? ⟨p, 0, none⟩ = some (ptr p) := h.row.cell 0 _ rfl
theorem Dp.c1 (h : Dp w p K bf bt V s) : w.cell? ⟨p, 1, none⟩ = some (.int .i64 s.lim) := h.row.cell 1 _ rfl
theorem Dp.c2 (h : Dp w p K bf bt V s) : w.cell? ⟨p, 2, none⟩ = some (.map bf) := h.row.cell 2 _ rfl
theorem Dp.c3 (h : Dp w p K bf bt V s) : w.cell? ⟨p, 3, none⟩ = some (.int .i64 (usedF s.fs)) := h.row.cell 3 _ rfl
theorem Dp.c4 (h : Dp w p K bf bt V s) : w.cell? ⟨p, 4, none⟩ = some (.int .i64 s.n) := h.row.cell 4 _ rfl
theorem Dp.c5 (h : Dp w p K bf bt V s) : w.cell? ⟨p, 5, none⟩ = some (.map bt) := h.row.cell 5 _ rfl
theorem Dp.c6 (h : Dp w p K bf bt V s) : w.cell? ⟨p, 6, none⟩ = some (.bool (!s.off)) := h.row.cell 6 _ rfl
theorem Dp.c7 (h : Dp w p K bf bt V s) : w.cell? ⟨p, 7, none⟩ = some (.bool s.out) := h.row.cell 7 _ rfl
theorem Dp.made (h : Dp w p K bf bt V s) : Calls Try.prog 41 #[ptr p] w fun e w' => e = .returned (.bool true) ∧ w' = w := made30 w p h.c0

set_option maxRecDepth 100000 in
set_option maxHeartbeats 1000000 in
theorem on13 (h : Dk w p K s) : Calls Try.prog 14 #[ptr p] w fun e w' => e = .returned (.bool (!s.off)) ∧ w' = w := by
  obtain ⟨bf, bt, V, h⟩ := h
  have hm := h.made
  have c6 := h.c6
  unfold ptr at *
  clear h
  go_enter Try.func14, Try.ntmps14
  go_wp2_with fail
  refine hm.mono ?_
  rintro e w' ⟨rfl, rfl⟩
  go_wp2_with fail
  go_ret
  exact ⟨rfl, rfl⟩
set_option maxRecDepth 100000 in
set_option maxHeartbeats 1000000 in
theorem calls14 (h : Dk w p K s) : Calls Try.prog 11 #[ptr p] w fun e w' => e = .returned (.int .i64 s.n) ∧ w' = w := by
  obtain ⟨bf, bt, V, h⟩ := h
  have hm := h.made
  have c6 := h.c4
  unfold ptr at *
  clear h
  go_enter Try.func11, Try.ntmps11
  go_wp2_with fail
  refine hm.mono ?_
  rintro e w' ⟨rfl, rfl⟩
  go_wp2_with fail
  go_ret
  exact ⟨rfl, rfl⟩
end

set_option maxRecDepth 100000 in
set_option maxHeartbeats 1000000 in
theorem nameByte58 (w : World) (c : UInt8) : Calls Try.prog 86 #[.int .u8 c.toNat] w fun e w' => e = .returned (.bool (nmByte c)) ∧ w' = w := by
  have hb : nmByte c = ((decide ((97 : Int) ≤ (c.toNat : Int)) && decide ((c.toNat : Int) ≤ 122)) || (decide ((48 : Int) ≤ (c.toNat : Int)) && decide ((c.toNat : Int) ≤ 57)) || decide ((c.toNat : Int) = 45) || decide ((c.toNat : Int) = 46)) := by
    simp only [nmByte]
    congr 1
    · congr 1
      · congr 1
        · congr 1 <;> exact decide_eq_decide.2 (by omega)
        · congr 1 <;> exact decide_eq_decide.2 (by omega)
      · exact decide_eq_decide.2 (by omega)
    · exact decide_eq_decide.2 (by omega)
  rw [hb]
  generalize (c.toNat : Int) = x
  clear hb
  by_cases h1 : (97 : Int) ≤ x <;> by_cases h2 : x ≤ 122 <;> by_cases h3 : (48 : Int) ≤ x <;> by_cases h4 : x ≤ 57 <;> by_cases h5 : x = 45 <;> by_cases h6 : x = 46 <;> (try omega)
  all_goals
    go_enter Try.func86, Try.ntmps86
    go_wp2_with fail
    go_ret
    refine ⟨congrArg (fun b => Ending.returned (.bool b)) ?_, rfl⟩
    first | rfl | (rw [Bool.eq_iff_iff]; simp; done) | (rw [Bool.eq_iff_iff]; simp; omega)

set_option maxRecDepth 100000 in
set_option maxHeartbeats 1000000 in
theorem isName50 (w : World) (s : Nm) (hs : s.length ≤ maxLen) : Calls Try.prog 78 #[strV s] w fun e w' => e = .returned (.bool (isNm s)) ∧ w' = w := by
  unfold strV
  have hsz := strSize s
  have hle : s.length ≤ 9223372036854775807 := by simp only [maxLen] at hs; omega
  by_cases h1 : s.length < 1
  · have e : isNm s = false := by simp [isNm]; omega
    rw [e]
    have : (s.length : Int) < 1 := by omega
    go_enter Try.func78, Try.ntmps78
    go_wp2_with fail
    go_ret
    exact ⟨rfl, rfl⟩
  by_cases h2 : 32 < s.length
  · have e : isNm s = false := by simp [isNm]; omega
    rw [e]
    have : ¬ (s.length : Int) < 1 := by omega
    have : (32 : Int) < (s.length : Int) := by omega
    go_enter Try.func78, Try.ntmps78
    go_wp2_with fail
    go_ret
    exact ⟨rfl, rfl⟩
  have i1 : ¬ (s.length : Int) < 1 := by omega
  have i2 : ¬ (32 : Int) < (s.length : Int) := by omega
  have hb := fun c => nameByte58 w c
  go_enter Try.func78, Try.ntmps78
  go_wp2_with fail
  go_loop [14] (fun x => ∃ k : Nat, k ≤ s.length ∧ x = .int .i64 k ∧ (s.take k).all nmByte = true) (fun x => s.length - (intOf x).toNat)
  case atStart => exact ⟨0, by omega, rfl, by simp⟩
  case round =>
    obtain ⟨k, hk, rfl, hall⟩ := hrel
    by_cases hkl : k < s.length
    · have i3 : (k : Int) < (s.length : Int) := by omega
      have hg : s[k]? = some s[k] := List.getElem?_eq_getElem hkl
      have hsame : ∀ h, (⟨s.toArray⟩ : ByteArray)[k]'h = s[k] := fun h => rfl
      by_cases hbk : nmByte s[k] = true
      · have hnext : Hid ((s.take (k + 1)).all nmByte = true) := by
          show (s.take (k + 1)).all nmByte = true
          rw [List.take_add_one, hg]
          simp only [List.all_append, hall, Bool.true_and]
          simp [hbk]
        have hc := hb s[k]
        rw [hbk] at hc
        clear hall hg
        go_wp2_with fail
        refine hc.mono ?_
        rintro e w' ⟨rfl, rfl⟩
        go_wp2_with fail
        go_round
        case rel => exact ⟨k + 1, by omega, by go_num, hnext.out⟩
        case measure => simp [intOf]; omega
      · have e : isNm s = false := by
          simp only [isNm, Bool.and_eq_false_iff]
          right
          rw [Bool.eq_false_iff]
          intro q
          exact hbk (List.all_eq_true.1 q _ (List.getElem_mem hkl))
        have HE : Hid (isNm s = false) := e
        clear e
        have hc := hb s[k]
        rw [show nmByte s[k] = false by simpa using hbk] at hc
        clear hall hg
        go_wp2_with fail
        refine hc.mono ?_
        rintro e w' ⟨rfl, rfl⟩
        go_wp2_with fail
        go_ret
        exact ⟨by rw [HE.out]; rfl, rfl⟩
    · have hkn : k = s.length := by omega
      have e : isNm s = true := by
        rw [hkn, List.take_length] at hall
        simp only [isNm, Bool.and_eq_true, decide_eq_true_eq]
        exact ⟨⟨by omega, by omega⟩, hall⟩
      have HE : Hid (isNm s = true) := e
      clear e
      have i3 : ¬ (k : Int) < (s.length : Int) := by omega
      clear hall
      go_wp2_with fail
      go_ret
      exact ⟨by rw [HE.out]; rfl, rfl⟩

theorem isNm_len {s : Nm} (h : isNm s = true) : s.length ≤ 32 := by
  simp only [isNm, Bool.and_eq_true, decide_eq_true_eq] at h
  exact h.1.2
/-- What every call with a name looks at first. -/
def asked (s : St) (nm : Nm) : Int := if s.off then 63 else if isNm nm then 0 else 60
section
variable {w : World} {p : Nat} {K : Nat → Prop} {bf bt : Option Nat} {V : Nm → Value} {s : St}
set_option maxRecDepth 100000 in
set_option maxHeartbeats 1000000 in
theorem ready32 (h : Dk w p K s) (nm : Nm) (hn : nm.length ≤ maxLen) : Calls Try.prog 44 #[ptr p, strV nm] w fun e w' => e = .returned (.int .i64 (asked s nm)) ∧ w' = w := by
  obtain ⟨bf, bt, V, h⟩ := h
  have hm := h.made
  have c6 := h.c6
  have hi := isName50 w nm hn
  clear h
  unfold ptr strV asked at *
  cases ho : s.off with
  | true =>
    rw [ho] at c6
    go_enter Try.func44, Try.ntmps44
    go_wp2_with fail
    refine hm.mono ?_
    rintro e w' ⟨rfl, rfl⟩
    go_wp2_with fail
    go_ret
    exact ⟨rfl, rfl⟩
  | false =>
    rw [ho] at c6
    cases hb : isNm nm <;> rw [hb] at hi
    all_goals
      go_enter Try.func44, Try.ntmps44
      go_wp2_with fail
      refine hm.mono ?_
      rintro e w' ⟨rfl, rfl⟩
      go_wp2_with fail
      refine hi.mono ?_
      rintro e w' ⟨rfl, rfl⟩
      go_wp2_with fail
      go_ret
      exact ⟨rfl, rfl⟩

theorem asked_off {s : St} {nm : Nm} (h : asked s nm = 0) : s.off = false ∧ isNm nm = true := by
  unfold asked at h
  split at h
  · cases h
  · split at h
    · rename_i a b
      exact ⟨by simpa using a, b⟩
    · cases h
theorem Dp.on_files (h : Dp w p K bf bt V s) (ho : s.out = false) : ∃ b D, bf = some b ∧ K b ∧ w.ownsMap Try.prog 9 heldElem b s.fs.length D ∧ Fm D V s.fs := by
  rcases h.files with ⟨q, _⟩ | ⟨_, q⟩
  · rw [ho] at q; cases q
  · exact q
theorem Dp.on_troubles (h : Dp w p K bf bt V s) (ho : s.off = false) : ∃ b D, bt = some b ∧ K b ∧ bf ≠ some b ∧ w.ownsMap Try.prog 3 heldElem b s.m D ∧ Tm D s.arms s.m := by
  rcases h.troubles with ⟨q, _⟩ | ⟨_, q⟩
  · rw [ho] at q; cases q
  · exact q
/-- What stands in the map at a name. -/
def stood (V : Nm → Value) (l : List Pf) (nm : Nm) : Value := match getF nm l with | none => zfile | some f => fileV (V nm) f.sy
/-- 'm[name]', with or without 'there'. -/
theorem files_look {b : Nat} {n : Nat} {D : DataW Value} {l : List Pf} {w : World} {V : Nm → Value} (o : w.ownsMap Try.prog 9 heldElem b n D) (fm : Fm D V l) (nm : Nm) (hn : nm.length ≤ maxLen) :
    (Instr.lookup 79 (.map (some b)) (strV nm) true).run Try.prog w = .ok (.tuple #[stood V l nm, .bool (getF nm l).isSome]) w ∧
    (Instr.lookup 79 (.map (some b)) (strV nm) false).run Try.prog w = .ok (stood V l nm) w := by
  have e : D.atKey (sKey nm) (.held zfile) = .held (stood V l nm) := by
    unfold stood
    cases hg : getF nm l with
    | none => exact fm.miss hg
    | some f => exact fm.at_ nm f hg
  constructor
  · obtain ⟨v, ps, hlook, hv⟩ := o.look_ok law9 Try.underlying79 (zero86 _) (zd := .held zfile) (zp := []) rfl (sKey_of nm hn)
    rw [e] at hv
    simp only [heldElem, Option.some.injEq, Prod.mk.injEq, DataW.held.injEq] at hv
    rw [hv.1, fm.has] at hlook
    exact hlook
  · obtain ⟨v, ps, hlook, hv⟩ := o.lookup law9 Try.underlying79 (zero86 _) (zd := .held zfile) (zp := []) rfl (sKey_of nm hn)
    rw [e] at hv
    simp only [heldElem, Option.some.injEq, Prod.mk.injEq, DataW.held.injEq] at hv
    rw [hv.1] at hlook
    exact hlook

theorem results_cell_row_tmp {P : Program} {fn : Func} {p u : Tmp} {ty : TypeId} (h : fn.results = #[.cell p ty, .tmp u]) (tmps : Array Value) (w : World) (g : Nat) (t : TypeId) (cs : Array Value) (fr : Nat × Nat) (d : TypeDesc)
    (hp : tmps.getD p undef = .pointer (some ⟨g, 0, none⟩)) (hg : w.heap[g]? = some (.cells cs t fr))
    (hu : P.underlying ty = some d) (hd : (match d with | .struct _ | .array _ _ => true | _ => false) = true) (hi : (P.info? ty).map (·.size) = some cs.size) :
    (results fn tmps).run P w = .ok (.tuple #[.agg cs, tmps.getD u undef]) w := by
  rw [results_cell_tmp h, hp]
  simp [asAddr, run_loadVar_row w g t ty cs fr d hg hu hd hi, Result.andThen]
theorem Own.slice {w : World} {e : TypeId} {v : Value} {xs : List Value} (h : Own w e v xs) : ∃ a n cap, v = .slice a n cap := by
  rcases h.shape with ⟨rfl, _⟩ | ⟨g, cap, cur, rfl, _⟩
  · exact ⟨_, _, _, rfl⟩
  · exact ⟨_, _, _, rfl⟩
/-- What find answers. -/
def foundV (V : Nm → Value) (s : St) (nm : Nm) : Value := stood V s.fs nm
def foundE (s : St) (nm : Nm) : Int := if asked s nm = 0 then (if (getF nm s.fs).isSome then 0 else 61) else asked s nm
set_option maxRecDepth 100000 in
set_option maxHeartbeats 1000000 in
theorem find46 (h : Dp w p K bf bt V s) (ho : s.off = false → s.out = false) (nm : Nm) (hn : nm.length ≤ maxLen) : Calls Try.prog 69 #[ptr p, strV nm] w fun e w' =>
    e = .returned (.tuple #[if foundE s nm = 0 then foundV V s nm else zfile, .int .i64 (foundE s nm)]) ∧ Turn no w w' := by
  have hk : Dk w p K s := ⟨bf, bt, V, h⟩
  have hr := fun o => ready32 (hk.turn_no ((Turn.refl no w).alloc o)) nm hn
  have c2 := h.c2
  by_cases ha : asked s nm = 0
  · obtain ⟨a1, a2⟩ := asked_off ha
    obtain ⟨b, D, rfl, kb, o, fm⟩ := h.on_files (ho a1)
    have hl := fun W (t : Turn no w W) => (files_look (ownsMap_turn o t (fun q => q)) fm nm hn).1
    have hc : ∀ W, Turn no w W → W.cell? ⟨p, 2, none⟩ = some (.map (some b)) := fun W t => t.keep c2 (fun q => q)
    cases hg : getF nm s.fs with
    | none =>
      have e1 : foundE s nm = 61 := by simp [foundE, ha, hg]
      rw [e1]
      rw [ha] at hr
      simp only [stood, hg, Option.isSome_none] at hl
      clear h hk fm ha e1
      have t1 := fun o => (Turn.refl no w).alloc o
      have hl1 := hl _ (t1 (.cells #[.slice none 0 0, .int .i64 0] 97))
      have c1 := hc _ (t1 (.cells #[.slice none 0 0, .int .i64 0] 97))
      unfold ptr strV zfile at *
      go_enter Try.func69, Try.ntmps69
      go_wp2_with fail
      refine (hr _).mono ?_
      rintro e w' ⟨rfl, rfl⟩
      go_wp2_with fail
      refine ⟨rfl, _, results_cell_row_tmp (g := w.heap.size) (cs := #[.slice none 0 0, .int .i64 0]) (t := 97) rfl _ _ _ _ rfl ((Row.new w #[.slice none 0 0, .int .i64 0] 97).alloc _) Try.underlying97 rfl (by kernel_rfl), rfl, ((Turn.refl no w).alloc _).alloc _⟩
    | some f =>
      have e1 : foundE s nm = 0 := by simp [foundE, ha, hg]
      rw [e1, if_pos rfl]
      have e2 : foundV V s nm = fileV (V nm) f.sy := by simp [foundV, stood, hg]
      rw [e2]
      rw [ha] at hr
      simp only [stood, hg, Option.isSome_some] at hl
      obtain ⟨hf1, hf2⟩ := getF_mem hg
      obtain ⟨a, n, cap, hv⟩ := Own.slice (h.bytes f hf1)
      rw [hf2] at hv
      clear h hk fm ha e1 e2
      have t1 := fun o => (Turn.refl no w).alloc o
      have hl1 := hl _ (t1 (.cells #[.slice none 0 0, .int .i64 0] 97))
      have c1 := hc _ (t1 (.cells #[.slice none 0 0, .int .i64 0] 97))
      unfold fileV at *
      rw [hv] at *
      unfold ptr strV at *
      clear hl
      go_enter Try.func69, Try.ntmps69
      go_wp2_with fail
      refine (hr _).mono ?_
      rintro e w' ⟨rfl, rfl⟩
      go_wp2_with fail
      refine ⟨rfl, _, results_cell_row_tmp (g := w.heap.size) (cs := #[.slice a n cap, .int .i64 f.sy]) (t := 97) rfl _ _ _ _ rfl ((Row.new w #[.slice a n cap, .int .i64 f.sy] 97).alloc _) Try.underlying97 rfl (by kernel_rfl), rfl, ((Turn.refl no w).alloc _).alloc _⟩
  · have e1 : foundE s nm = asked s nm := by simp [foundE, ha]
    rw [e1, if_neg ha]
    have ha' : (asked s nm != 0) = true := by simpa using ha
    generalize asked s nm = E at *
    clear h hk
    unfold ptr strV zfile at *
    go_enter Try.func69, Try.ntmps69
    go_wp2_with fail
    refine (hr _).mono ?_
    rintro e w' ⟨rfl, rfl⟩
    go_wp2_with fail
    refine ⟨rfl, _, results_cell_row_tmp (g := w.heap.size) (cs := #[.slice none 0 0, .int .i64 0]) (t := 97) rfl _ _ _ _ rfl (Row.new w #[.slice none 0 0, .int .i64 0] 97) Try.underlying97 rfl (by kernel_rfl), rfl, ((Turn.refl no w).alloc _)⟩

theorem wrap_i64 {x : Int} (h0 : -9223372036854775808 ≤ x) (h1 : x ≤ 9223372036854775807) : IntKind.i64.wrap x = x := by
  have : (Lit.int .i64 x).wf = true := i64_wf h0 h1
  simp only [IntKind.wrap, IntKind.bits, IntKind.signed]
  simp
  omega
/-- Is there room? -/
def fitsB (s : St) (nm : Nm) (more : Int) : Bool := decide (more ≤ (s.lim : Int) - (usedF s.fs : Int)) && ((getF nm s.fs).isSome || decide (s.fs.length < 65536))
set_option maxRecDepth 100000 in
set_option maxHeartbeats 2000000 in
theorem fits33 (h : Dp w p K bf bt V s) (ho : s.out = false) (nm : Nm) (hn : nm.length ≤ maxLen) (more : Int) : Calls Try.prog 45 #[ptr p, strV nm, .int .i64 more] w fun e w' =>
    e = .returned (.bool (fitsB s nm more)) ∧ Turn no w w' := by
  have c1 := h.c1
  have c2 := h.c2
  have c3 := h.c3
  obtain ⟨b, D, rfl, kb, o, fm⟩ := h.on_files ho
  have hl := (files_look o fm nm hn).1
  have hlen := fun W (t : Turn no w W) => (ownsMap_turn o t (fun q => q)).len Try.underlying79
  rw [fm.size] at hlen
  have hu := h.inv.used
  have hL := h.inv.lim
  have hcount := h.inv.count
  have hz : ∃ a n cap m, stood V s.fs nm = .agg #[.slice a n cap, .int .i64 m] := by
    unfold stood
    cases hg : getF nm s.fs with
    | none => exact ⟨_, _, _, _, rfl⟩
    | some f =>
      obtain ⟨hf1, hf2⟩ := getF_mem hg
      obtain ⟨a, n, cap, hv⟩ := Own.slice (h.bytes f hf1)
      rw [hf2] at hv
      exact ⟨a, n, cap, f.sy, by simp [fileV, hv]⟩
  obtain ⟨a, n, cap, m, hz⟩ := hz
  rw [hz] at hl
  unfold fitsB
  generalize (getF nm s.fs).isSome = T at *
  generalize usedF s.fs = U at *
  generalize s.fs.length = L at *
  generalize s.lim = M at *
  clear h fm o hz
  have tA : Turn no w (w.alloc (.cells #[.slice a n cap, .int .i64 m] 97)) := (Turn.refl no w).alloc _
  have d1 := tA.keep c1 (fun q => q)
  have d2 := tA.keep c2 (fun q => q)
  have d3 := tA.keep c3 (fun q => q)
  have dl := fun k ty => hlen _ (tA.drewN k) ty
  clear hlen
  have hsub : IntKind.i64.wrap ((M : Int) - (U : Int)) = (M : Int) - (U : Int) := wrap_i64 (by omega) (by omega)
  unfold ptr strV at *
  have hcast : decide (L < 65536) = decide ((L : Int) < 65536) := decide_eq_decide.2 (by omega)
  rw [hcast]
  obtain ⟨A, hA⟩ : ∃ A, decide (more ≤ (M : Int) - (U : Int)) = A := ⟨_, rfl⟩
  obtain ⟨B, hB⟩ : ∃ B, decide ((L : Int) < 65536) = B := ⟨_, rfl⟩
  rw [hA, hB]
  clear hcast hu hL hcount
  cases A <;> cases B <;> cases T
  all_goals
    go_enter Try.func45, Try.ntmps45
    go_wp2_with fail
    go_quiet (fail)
    go_wp2_with fail
    go_ret
    exact ⟨rfl, (tA.drewN _)⟩
end
end Go.Proofs.Ytcdogciacchigab
