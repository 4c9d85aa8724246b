/- Signed of the document's registry. -/
import Derived.Test.YtnlcngcilojnkabDoorA4
namespace Go.Proofs.YtnlcngcilojnkabDoor
open Go.RowKit Go.Maps Go.MuLone
set_option linter.unusedVariables false
theorem txs_step (R : List Rec) (i : Nat) (x : Rec) (a : UInt64) (h : R[i]? = some x) : txs (R.take (i + 1)) a = txs (R.take i) a ++ (if a = x.1 then [x.2] else []) := by
  have e : R.take (i + 1) = R.take i ++ [(x.1, x.2)] := by rw [List.take_add_one, h]; rfl
  rw [e, txs_append]
section
variable {w : World} {q : Nat} {ve vr : Value} {E : List UInt64} {R : List Rec}
set_option maxRecDepth 100000 in
set_option maxHeartbeats 4000000 in
theorem rsigned27 (h : Rf w q ve vr E R) (a : UInt64) (hR : ∀ r ∈ R, r.2.length ≤ 1048576) (hRl : R.length ≤ 1599289640401) : Calls Tryd.prog 27 #[.pointer (some ⟨q, 0, none⟩), .int .u64 a.toNat] w fun e w' =>
    ∃ v ts, e = .returned v ∧ Ml w.heap.size w' v ts ∧ ts.map (·.2) = txs R a ∧ Turn no w w' := by
  have hgd := good34 h
  obtain ⟨ar, cr, e0, hle, hcell⟩ := h.recs_at
  obtain ⟨n, hn⟩ : ∃ n, Shut (R.length = n) := ⟨_, rfl⟩
  rw [show R.length = n from hn.out] at e0 hle hRl
  have c2 : w.cell? ⟨q, 2, none⟩ = some (.slice ar n cr) := by rw [← e0]; exact h.row.cell 2 _ rfl
  clear h e0
  go_enter Tryd.func27, Tryd.ntmps27
  go_wp2_with fail
  refine hgd.mono ?_
  rintro e w' ⟨rfl, e1⟩
  have e1 := e1.symm
  subst e1
  clear hgd
  go_wp2_with fail
  go_loopw [5, 6] (fun v c wr => ∃ (i : Nat) (ts : List (Value × List UInt8)), i ≤ n ∧ c = .int .i64 i ∧ Ml w.heap.size wr v ts ∧ ts.map (·.2) = txs (R.take i) a ∧ Turn no w wr) (fun _ c _ => n - (intOf c).toNat)
  case atStart => exact ⟨0, [], Nat.zero_le _, rfl, Ml.nil _ _, by simp [txs], Turn.refl _ _⟩
  case round =>
    obtain ⟨i, ts, hi, rfl, hM, hts, T⟩ := hrel
    obtain ⟨ad, ln, cq, hvs⟩ := hM.own.shp
    subst hvs
    have hwz := T.size
    have c2r := T.keep c2 (fun q => q)
    by_cases hlt : i < n
    · have hlt' : (i : Int) < (n : Int) := by omega
      obtain ⟨⟨ax, s⟩, hx⟩ : ∃ x, R[i]? = some x := ⟨R[i]'(by rw [hn.out]; exact hlt), List.getElem?_eq_getElem _⟩
      obtain ⟨g, rfl, q0, q1⟩ := hcell i _ hx
      simp only at q0 q1
      have q0 := T.keep q0 (fun q => q)
      have q1 := T.keep q1 (fun q => q)
      have hsl : s.length ≤ 1048576 := hR _ (List.mem_of_getElem? hx)
      have hst := txs_step R i _ a hx
      simp only at hst
      have htl : ts.length ≤ i := by
        have h1 := congrArg List.length hts
        rw [List.length_map] at h1
        have h2 := txs_len (R.take i) a
        rw [List.length_take] at h2
        omega
      have hts1 : ts.length ≤ 1599289640401 := by omega
      have htsS : Shut (ts.map (·.2) = txs (R.take i) a) := hts
      clear hcell hR hx hts htl
      by_cases h1 : ax = a
      · have h1 := h1.symm
        subst h1
        rw [if_pos rfl] at hst
        have hstS : Shut (txs (R.take (i + 1)) a = txs (R.take i) a ++ [s]) := hst
        clear hst
        go_wp2_with (first
          | (obtain ⟨cap5, w5, hcv5, T5, s5, b5, br5⟩ := conv_row wr s hsl
             refine wpList_conv_run rfl (.tmp 38) rfl _ rfl hcv5 ?_
             have f5 : ∀ q, (Value.slice (some ⟨wr.heap.size, 0, none⟩) s.length cap5).ownBlock = some q → wr.heap.size ≤ q := fun q hq => by cases hq; exact Nat.le_refl _
             have OWN := (hM.own.turn_no T5).turn_no ((Turn.refl no w5).alloc (.cells #[.slice (some ⟨wr.heap.size, 0, none⟩) s.length cap5] 29))
             have SRC := src_oneT (P := Tryd.prog) (e := 29) Tryd.underlying50 w5 (.slice (some ⟨wr.heap.size, 0, none⟩) s.length cap5) rfl
             have PSH := fun {v6 w6} O6 G6 => hM.push (v' := v6) (w3 := w6) T5 b5 br5 f5 ((Turn.refl no w5).alloc (.cells #[.slice (some ⟨wr.heap.size, 0, none⟩) s.length cap5] 29)) O6 G6 hwz
             have TT5 := (T.then_no T5).alloc (.cells #[.slice (some ⟨wr.heap.size, 0, none⟩) s.length cap5] 29)
             have fv5 := hM.fv
             clear hcv5 s5 b5 br5 f5 T5 T hM
             generalize wr.heap.size = g5 at *)
          | (at_builtin; refine wpList_append_src rfl (.tmp 30) (.tmp 40) rfl Tryd.underlying50 info31 rfl (.slice ad ln cq) (ts.map (·.1)) rfl OWN (.slice (some ⟨w5.heap.size, 0, none⟩) 1 1) 1 [.slice (some ⟨g5, 0, none⟩) s.length cap5] rfl SRC (by rw [List.length_map]; omega) (by rw [List.length_map]; simp only [maxLen]; omega) ?_))
        intro v6 w6 O6 G6 _
        have M6 := PSH O6 G6
        have T6 : Turn no w w6 := (TT5.of_no.trans G6.turn (fun _ _ q => q)).mono (fun k hk q => by have := fv5 k q; omega)
        obtain ⟨ad6, ln6, cq6, hv6⟩ := O6.shp
        subst hv6
        clear O6 G6 PSH TT5 OWN SRC q0 q1 c2r
        go_wp2_with fail
        go_roundw
        case rel =>
          refine ⟨i + 1, ts ++ [(.slice (some ⟨g5, 0, none⟩) s.length cap5, s)], by omega, by go_num, M6, ?_, T6⟩
          rw [List.map_append, htsS.out, hstS.out]
          rfl
        case measure => simp [intOf]; omega
      · have h1' : ((ax.toNat : Int) == (a.toNat : Int)) = false := by
          simp
          exact fun e => h1 (UInt64.toNat_inj.1 (by omega))
        have h1'' : ¬ (ax.toNat : Int) = (a.toNat : Int) := by simpa using h1'
        have h13 : ¬ ax.toNat = a.toNat := by omega
        rw [if_neg (fun e => h1 e.symm), List.append_nil] at hst
        have hstS : Shut (txs (R.take (i + 1)) a = txs (R.take i) a) := hst
        clear hst
        go_wp2_with fail
        go_roundw
        case rel => exact ⟨i + 1, ts, by omega, by go_num, hM, by rw [htsS.out, hstS.out], T⟩
        case measure => simp [intOf]; omega
    · have hin : i = n := by omega
      subst hin
      have hlt' : ¬ (i : Int) < (i : Int) := by omega
      have htk : R.take i = R := by rw [← hn.out]; exact List.take_length
      rw [htk] at hts
      have htsS : Shut (ts.map (·.2) = txs R a) := hts
      clear hcell hR hts
      go_wp2_with fail
      go_ret
      exact ⟨_, rfl, ts, hM, htsS.out, T⟩
end
end Go.Proofs.YtnlcngcilojnkabDoor
