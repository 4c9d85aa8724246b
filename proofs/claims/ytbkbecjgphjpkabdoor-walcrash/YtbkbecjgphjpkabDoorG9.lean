/- The life of a log: the law's live, the walk. -/
import Derived.Test.YtbkbecjgphjpkabDoorG8
namespace Go.Proofs.YtbkbecjgphjpkabDoor
open Go.RowKit Go.Maps
set_option linter.unusedVariables false

theorem results_tmp4 {fn : Func} {t u v x : Tmp} (h : fn.results = #[.tmp t, .tmp u, .tmp v, .tmp x]) (tmps : Array Value) (P : Program) (w : World) :
    (results fn tmps).run P w = .ok (.tuple #[tmps.getD t undef, tmps.getD u undef, tmps.getD v undef, tmps.getD x undef]) w := by
  simp [results, h]
theorem info55 : (Tryd.prog.info? 55).map (fun i => (i.zero, i.size, i.bytes)) = some (some (.slice none 0 0), 1, 24) := by kernel_rfl
theorem own_empty5 (w : World) : Own (w.alloc (.cells #[] 5)) 5 (.slice (some ⟨w.heap.size, 0, none⟩) 0 0) [] := own_empty w 5
section
variable {Wb w : World} {P : Nat → Prop} {q p : Nat} {vh vm : Value} {ts ms : List It} {here may : List (List UInt8)} {safe c y n : Nat} {d : Bool} {r : List UInt8}
theorem Lw.hlen {a : Option Addr} {k m : Nat} (h : Lw Wb P w q p (.slice a k m) vm ts ms (ts.map (·.2)) may safe c y d n) : k = c := by
  have hl := h.len
  rw [List.length_map] at hl
  rcases h.h.1.own.shape with ⟨e, q⟩ | ⟨_, _, _, e, _⟩
  · cases e
    have := congrArg List.length q
    simp at this
    simp [hl, this]
  · cases e
    simp [hl]
theorem Lw.pushH (hP : ∀ k, P k → k < Wb.heap.size) (h : Lw Wb P w q p vh (.slice none 0 0) ts [] (ts.map (·.2) ++ [r]) may safe c y d n) {w1 w2 : World} {u v' : Value} (TC : Turn no w w1) (hu : Own w1 5 u (r.map bv)) (fu : ∀ k, u.ownBlock = some k → w.heap.size ≤ k) (O8 : Own w2 55 v' (ts.map (·.1) ++ [u])) (g : Grew w1 w2 vh v') :
    Lw Wb P w2 q p v' (.slice none 0 0) (ts ++ [(u, r)]) [] ((ts ++ [(u, r)]).map (·.2)) may safe c y d n := by
  have hm : (ts ++ [(u, r)]).map (·.2) = ts.map (·.2) ++ [r] := by simp
  rw [hm]
  have S : Turn (fun k => vh.ownBlock = some k) w w2 := (TC.of_no (S := fun k => vh.ownBlock = some k)).trans g.turn (fun _ _ z => z)
  refine Lw.lists hP h S (fun k z => Or.inl (Or.inl z)) (h.h.1.push TC hu O8 g) (Hr.nil _) (fun k z => ?_)
  rcases z with z | z
  · rcases Hr.push_foot (r := r) (ts := ts) TC fu g k z with z | z
    · exact Or.inl (Or.inl z)
    · exact Or.inr z
  · exact Or.inl (Or.inr z)
theorem Lw.pushM (hP : ∀ k, P k → k < Wb.heap.size) (h : Lw Wb P w q p vh (.slice none 0 0) ts [] (ts.map (·.2)) [r] safe c y d n) {w1 w2 : World} {u v' : Value} (TC : Turn no w w1) (hu : Own w1 5 u (r.map bv)) (fu : ∀ k, u.ownBlock = some k → w.heap.size ≤ k) (O8 : Own w2 55 v' ([] ++ [u])) (g : Grew w1 w2 (.slice none 0 0) v') :
    Lw Wb P w2 q p vh v' ts [(u, r)] (ts.map (·.2)) ([(u, r)].map (·.2)) safe c y d n := by
  have S : Turn no w w2 := TC.trans g.turn (fun _ _ z => by cases z)
  refine Lw.lists hP h (vm' := v') (ms' := [(u, r)]) S (fun k z => z.elim) (h.h.1.turn_no S) (Hr.push (ts := []) (Hr.nil _) TC hu O8 g) (fun k z => ?_)
  rcases z with z | z
  · exact Or.inl (Or.inl z)
  · rcases Hr.push_foot (r := r) (ts := []) TC fu g k z with z | z
    · exact Or.inl (Or.inr z)
    · exact Or.inr z
end
/-- What live answers. -/
def Lout (W0 : World) (P0 : Nat → Prop) (q p n0 c0 N : Nat) (e : Ending) (w' : World) : Prop := ∃ vh vm ts ms safe c y d n, e = .returned (.tuple #[.bool true, vh, vm, .int .i64 (safe : Nat)]) ∧
      Lw W0 P0 w' q p vh vm ts ms (ts.map (·.2)) (ms.map (·.2)) safe c y d n ∧ ms.length ≤ 1 ∧ n ≤ n0 + 2 * N ∧ c ≤ c0 + N
section
variable {W0 w : World} {P0 : Nat → Prop} {q p : Nat} {vh0 : Value} {ts0 : List It} {safe0 c0 y0 n0 : Nat}
set_option maxRecDepth 100000 in
set_option maxHeartbeats 8000000 in
theorem live11 (h : Lw W0 P0 w q p vh0 (.slice none 0 0) ts0 [] (ts0.map (·.2)) [] safe0 c0 y0 false n0) (hP0 : ∀ k, P0 k → k < W0.heap.size) (hL : LaidT W0) (h00 : P0 0)
    (vr vy vT : Value) (keep : Int) (junk : Nat) (rs : List It) (ys : List Int) (hR : Bl W0 vr rs) (hRP : rs ≠ [] → ∀ g, vr.ownBlock = some g → P0 g) (hrP : ∀ t ∈ rs, t.2 ≠ [] → ∀ g, t.1.ownBlock = some g → P0 g) (hrl : ∀ t ∈ rs, t.2.length ≤ 140737488355328)
    (hY : Vs W0 vy (ys.map iv)) (hyP : ys ≠ [] → ∀ g, vy.ownBlock = some g → P0 g) (hT : ∃ a k m, vT = .slice a k m) (hN : rs.length ≤ 140737488355328) (hn0 : n0 ≤ 1099511627776) (hc0 : c0 ≤ 1099511627776) :
    Calls Tryd.prog 11 #[ptr q, ptr p, .agg #[vr, vy, vT, .int .i64 keep, .int .u8 junk], vh0, .int .i64 safe0] w (Lout W0 P0 q p n0 c0 rs.length) := by
  obtain ⟨ra, rc, hvr⟩ := hR.form
  obtain ⟨ya, yc, hvy⟩ := hY.slice
  rw [List.length_map] at hvy
  obtain ⟨ta, tk, tm, rfl⟩ := hT
  have hT0 := h.T
  have hB := h.rebase w.heap.size (.cells #[vr, vy, .slice ta tk tm, .int .i64 keep, .int .u8 junk] 38) rfl
  have R7 : (w.alloc (.cells #[vr, vy, .slice ta tk tm, .int .i64 keep, .int .u8 junk] 38)).heap[w.heap.size]? = some (.cells #[vr, vy, .slice ta tk tm, .int .i64 keep, .int .u8 junk] 38 (0, 0)) := heap_alloc_new w _
  have b0 : (w.alloc (.cells #[vr, vy, .slice ta tk tm, .int .i64 keep, .int .u8 junk] 38)).cell? ⟨w.heap.size, 0, none⟩ = some vr := by rw [cell_of_row _ w.heap.size 0 _ 38 (0, 0) R7]; rfl
  have b1 : (w.alloc (.cells #[vr, vy, .slice ta tk tm, .int .i64 keep, .int .u8 junk] 38)).cell? ⟨w.heap.size, 1, none⟩ = some vy := by rw [cell_of_row _ w.heap.size 1 _ 38 (0, 0) R7]; rfl
  have hT1 : Turn (fun k => ¬ P0 k) W0 (w.alloc (.cells #[vr, vy, .slice ta tk tm, .int .i64 keep, .int .u8 junk] 38)) := hT0.alloc _
  have hs0 := hT1.size
  have hPb : ∀ k, (P0 k ∨ k = w.heap.size) → k < (w.alloc (.cells #[vr, vy, .slice ta tk tm, .int .i64 keep, .int .u8 junk] 38)).heap.size := fun k z => by
    rcases z with z | z
    · have := hP0 k z; omega
    · subst z; simp
  have hLb : LaidT (w.alloc (.cells #[vr, vy, .slice ta tk tm, .int .i64 keep, .int .u8 junk] 38)) := hL.turn hT1 (fun z => z h00)
  have hYb : Vs (w.alloc (.cells #[vr, vy, .slice ta tk tm, .int .i64 keep, .int .u8 junk] 38)) vy (ys.map iv) := hY.late hT1 (fun z g z1 z2 => z2 (hyP (by intro e; subst e; simp at z) g z1))
  have hRb : ∀ j t, rs[j]? = some t → ∃ g o, ra = some ⟨g, o, none⟩ ∧ P0 g ∧ (w.alloc (.cells #[vr, vy, .slice ta tk tm, .int .i64 keep, .int .u8 junk] 38)).cell? ⟨g, o + j, none⟩ = some t.1 ∧ Bs (w.alloc (.cells #[vr, vy, .slice ta tk tm, .int .i64 keep, .int .u8 junk] 38)) t.1 t.2 := by
    intro j t ht
    obtain ⟨aa, cp, e, _, _, hc⟩ := hR
    rw [hvr] at e
    cases e
    obtain ⟨g, o, e, c1, c2⟩ := hc j t ht
    have hg : P0 g := hRP (by intro e; subst e; simp at ht) g (by rw [hvr, e]; rfl)
    exact ⟨g, o, e, hg, hT1.keep c1 (fun z => z hg), c2.late hT1 (fun z g' z1 z2 => z2 (hrP t (List.mem_of_getElem? ht) z g' z1))⟩
  generalize hWb : w.alloc (.cells #[vr, vy, .slice ta tk tm, .int .i64 keep, .int .u8 junk] 38) = Wb at *
  obtain ⟨N, hNN⟩ : ∃ N, rs.length = N := ⟨_, rfl⟩
  rw [hNN] at hvr hN ⊢
  have FIN : Hid (∀ w' vh vm ts ms safe c y d n, Lw Wb (fun k => P0 k ∨ k = w.heap.size) w' q p vh vm ts ms (ts.map (·.2)) (ms.map (·.2)) safe c y d n → Lw W0 P0 w' q p vh vm ts ms (ts.map (·.2)) (ms.map (·.2)) safe c y d n) := fun _ _ _ _ _ _ _ _ _ _ z => Lw.unbase hT1 z
  obtain ⟨P, hPP⟩ : ∃ P : Nat → Prop, (fun k => P0 k ∨ k = w.heap.size) = P := ⟨_, rfl⟩
  have hP7 : P w.heap.size := by rw [← hPP]; exact Or.inr rfl
  have hP00 : P 0 := by rw [← hPP]; exact Or.inl h00
  have hPi : ∀ k, P0 k → P k := fun k z => by rw [← hPP]; exact Or.inl z
  have hP : ∀ k, P k → k < Wb.heap.size := fun k z => by rw [← hPP] at z; exact hPb k z
  rw [hPP] at hB FIN
  have HB0 : Hid (∀ W, Turn (fun k => ¬ P k) Wb W → W.cell? ⟨w.heap.size, 0, none⟩ = some (.slice ra N rc)) := fun W t => by rw [← hvr]; exact t.keep b0 (fun z => z hP7)
  have HB1 : Hid (∀ W, Turn (fun k => ¬ P k) Wb W → W.cell? ⟨w.heap.size, 1, none⟩ = some (.slice ya ys.length yc)) := fun W t => by rw [← hvy]; exact t.keep b1 (fun z => z hP7)
  have HY : Hid (∀ W, Turn (fun k => ¬ P k) Wb W → Vs W (.slice ya ys.length yc) (ys.map iv)) := fun W t => by rw [← hvy]; exact hYb.late t (fun z g z1 z2 => z2 (hPi g (hyP (by intro e; subst e; simp at z) g z1)))
  have HR : Hid (∀ j t, rs[j]? = some t → ∃ g o, ra = some ⟨g, o, none⟩ ∧ Bs Wb t.1 t.2 ∧ t.2.length ≤ 140737488355328 ∧ (t.2 ≠ [] → ∀ g, t.1.ownBlock = some g → P g) ∧ ∀ W, Turn (fun k => ¬ P k) Wb W → W.cell? ⟨g, o + j, none⟩ = some t.1) := fun j t ht => by
    obtain ⟨g, o, e, hg, c1, c2⟩ := hRb j t ht
    exact ⟨g, o, e, c2, hrl t (List.mem_of_getElem? ht), fun z g' z1 => hPi g' (hrP t (List.mem_of_getElem? ht) z g' z1), fun W t' => t'.keep c1 (fun z => z (hPi g hg))⟩
  obtain ⟨vha, vhn, vhc, hvh0⟩ := h.h.1.own.form
  have hms0 : ([] : List It).length ≤ 1 := by simp
  replace hB := Hid.mk' hB
  clear h hR hRP hrP hrl hY hyP hRb hYb b0 b1 R7 hT0 hT1 hPb hPP hL hP0
  subst hvh0
  subst hvy
  subst hvr
  unfold ptr at *
  go_enter Tryd.func11, Tryd.ntmps11
  go_wp2_with fail
  try rw [hWb]
  go_loopw [3, 4, 14, 15, 16] (fun vh sf vm dd ii wr => ∃ (i : Nat) (ts ms : List It) (safe c y : Nat) (d : Bool) (n : Nat), i ≤ N ∧ ii = .int .i64 i ∧ sf = .int .i64 safe ∧ dd = .bool d ∧ Lw Wb P wr q p vh vm ts ms (ts.map (·.2)) (ms.map (·.2)) safe c y d n ∧ ms.length ≤ 1 ∧ (d = false → ms = [] ∧ vm = .slice none 0 0) ∧ n ≤ n0 + 2 * i ∧ c ≤ c0 + i) (fun _ _ _ _ ii _ => N - (intOf ii).toNat)
  case atStart => exact ⟨0, ts0, [], safe0, c0, y0, false, n0, Nat.zero_le _, rfl, rfl, rfl, hB.out, (by simp), (fun _ => ⟨rfl, rfl⟩), by omega, by omega⟩
  case round =>
    obtain ⟨i, ts, ms, safe, c, y, d, n, hi, rfl, rfl, rfl, L, hms, hdm, hnb, hcb⟩ := hrel
    have z0 := HB0.out _ L.T
    have z1 := HB1.out _ L.T
    obtain ⟨ha, hn', hc', rfl⟩ := L.h.1.own.form
    obtain ⟨ma, mn, mc, rfl⟩ := L.h.2.own.form
    by_cases hlt : i < N
    · have hlt' : (i : Int) < (N : Int) := by omega
      have hi1 : Hid (i + 1 ≤ N) := hlt
      obtain ⟨t, ht⟩ : ∃ t, rs[i]? = some t := ⟨rs[i]'(by omega), List.getElem?_eq_getElem _⟩
      obtain ⟨g, o, rfl, hb, hbl, hv, hcell⟩ := HR.out i t ht
      obtain ⟨tv, tb⟩ := t
      simp only at hb hbl hv hcell
      obtain ⟨xa, xc, rfl⟩ := hb.slice
      have zc := hcell _ L.T
      go_wp2_with fail
      refine (show Calls Tryd.prog 23 #[.pointer (some ⟨p, 0, none⟩)] _ _ from L.calls).mono ?_
      rintro e' w1 ⟨rfl, rfl⟩
      cases d
      · obtain ⟨rfl, em⟩ := hdm rfl
        cases em
        clear hdm hms
        go_wp2_with fail
        refine (L.app (by omega) (by omega) hP hLb hP00 _ tb hb hv).mono ?_
        rintro e' w2 ⟨E, n2, rfl, hn2, hcase⟩
        rcases hcase with ⟨rfl, L2⟩ | ⟨rfl, L2⟩ | ⟨rfl, L2⟩ | ⟨hE, L2⟩
        · have z0 := HB0.out _ L2.T
          have z1 := HB1.out _ L2.T
          obtain ⟨c1, hc1⟩ : ∃ c1, c + 1 = c1 := ⟨_, rfl⟩
          rw [hc1] at L2
          have hcb1 : c1 ≤ c0 + (i + 1) := by omega
          have hcl : Hid (ts.length ≤ 2199023255552) := by
            show ts.length ≤ 2199023255552
            have := L2.short
            simp at this
            omega
          clear hc1
          go_wp2_with fail
          refine (num5 _ _).mono ?_
          rintro e' w3 ⟨rfl, rfl⟩
          have TA : Turn no w3 (w3.alloc (.cells #[] 5)) := (Turn.refl no w3).alloc _
          have LA := L2.rest TA
          have z0a := HB0.out _ LA.T
          have zca := hcell _ LA.T
          have hb3 : Bs w3 (.slice xa tb.length xc) tb := hb.late L2.T (fun z g z1 z2 => z2 (hv z g z1))
          go_wp2_with (at_builtin; refine wpList_append_src rfl (.tmp 53) (.tmp 58) rfl Tryd.underlying55 Tryd.info5 rfl _ [] rfl (own_empty w3 5) _ tb.length (tb.map bv) rfl ?src ?b ?m ?_)
          case src => exact Bs.src Tryd.underlying55 (hb3.turn_no TA)
          case b => simp; omega
          case m => unfold maxLen; simp; omega
          intro v5 w5 O5 g5 _
          have f0 : ∀ q, (Value.slice (some ⟨w3.heap.size, 0, none⟩) 0 0).ownBlock = some q → w3.heap.size ≤ q := fun k q => by cases q; exact Nat.le_refl _
          have t5 : Turn no w3 w5 := TA.fresh g5 f0
          have f5 := g5.fresh f0 (by simp)
          replace O5 : Own w5 5 v5 (tb.map bv) := O5
          obtain ⟨ua, un, uc, rfl⟩ := O5.form
          have TB : Turn no w5 (w5.alloc (.cells #[.slice ua un uc] 55)) := (Turn.refl no w5).alloc _
          have TC := t5.then_no TB
          clear z0a zca LA hb3 g5 f0
          have OH := L2.h.1.own.turn_no TC
          go_wp2_with (at_builtin; refine wpList_append_src rfl (.tmp 52) (.tmp 60) rfl Tryd.underlying28 info55 rfl _ _ rfl OH _ 1 [.slice ua un uc] rfl ?src ?b ?m ?_)
          case src => exact src_oneT Tryd.underlying28 w5 _ rfl
          case b => have := hcl.out; (simp <;> omega)
          case m => have := hcl.out; unfold maxLen; (simp <;> omega)
          intro v8 w8 O8 g8 _
          replace L2 := L2.pushH hP TC (O5.turn_no TB) f5 O8 g8
          obtain ⟨va, vn, vc, rfl⟩ := O8.form
          clear OH O8 g8 TC TB TA t5 f5 O5 z0 z1 hcl
          have z0 := HB0.out _ L2.T
          have z1 := HB1.out _ L2.T
          go_wp2_with fail
          have hYW := HY.out _ L2.T
          refine (has25 _ _ ys hYW _).mono ?_
          rintro e' wh ⟨⟨hb, rfl⟩, rfl⟩
          cases hb
          · go_wp2_with fail
            go_roundw
            case rel => exact ⟨i + 1, ts ++ [(.slice ua un uc, tb)], [], safe, c1, y, false, n2, hi1.out, by go_num, rfl, rfl, L2, (by simp), (fun _ => ⟨rfl, rfl⟩), by omega, by omega⟩
            case measure => have := hi1.out; simp [intOf]; omega
          · go_wp2_with fail
            refine L2.calls.mono ?_
            rintro e' wc ⟨rfl, rfl⟩
            go_wp2_with fail
            refine (L2.syn hP (by omega)).mono ?_
            rintro e' ws ⟨E2, n9, rfl, hn9, hcase⟩
            rcases hcase with ⟨rfl, L8⟩ | ⟨hE2, L8⟩
            · go_wp2_with fail
              refine (num5 _ _).mono ?_
              rintro e' wn ⟨rfl, rfl⟩
              go_wp2_with fail
              refine L8.count.mono ?_
              rintro e' wk ⟨rfl, L9⟩
              have hcc : (((c1 : Nat) : Int) != ((c1 : Nat) : Int)) = false := by simp
              have hcn : (((c1 : Nat) : Int) != ((vn : Nat) : Int)) = false := by rw [L9.hlen]; simp
              go_wp2_with fail
              go_roundw
              case rel => exact ⟨i + 1, ts ++ [(.slice ua un uc, tb)], [], c1, c1, c1, false, n9, hi1.out, by go_num, rfl, rfl, L9, (by simp), (fun _ => ⟨rfl, rfl⟩), by omega, by omega⟩
              case measure => have := hi1.out; simp [intOf]; omega
            · have hE2' : (E2 != 0) = true := by simpa using hE2
              have hE3 : (E2 == 0) = false := by simpa using hE2
              go_wp2_with fail
              refine (num5 _ _).mono ?_
              rintro e' wn ⟨rfl, rfl⟩
              go_wp2_with fail
              go_roundw
              case rel => exact ⟨i + 1, ts ++ [(.slice ua un uc, tb)], [], safe, c1, y, true, n9, hi1.out, by go_num, rfl, rfl, L8, (by simp), (fun z => by cases z), by omega, by omega⟩
              case measure => have := hi1.out; simp [intOf]; omega
        · have z0 := HB0.out _ L2.T
          have z1 := HB1.out _ L2.T
          go_wp2_with fail
          refine (num5 _ _).mono ?_
          rintro e' w3 ⟨rfl, rfl⟩
          go_wp2_with fail
          have hYW := HY.out _ L2.T
          refine (has25 _ _ ys hYW _).mono ?_
          rintro e' wh ⟨⟨hb, rfl⟩, rfl⟩
          cases hb
          · go_wp2_with fail
            go_roundw
            case rel => exact ⟨i + 1, ts, [], safe, c, y, false, n2, hi1.out, by go_num, rfl, rfl, L2, (by simp), (fun _ => ⟨rfl, rfl⟩), by omega, by omega⟩
            case measure => have := hi1.out; simp [intOf]; omega
          · go_wp2_with fail
            refine L2.calls.mono ?_
            rintro e' wc ⟨rfl, rfl⟩
            go_wp2_with fail
            refine (L2.syn hP (by omega)).mono ?_
            rintro e' ws ⟨E2, n9, rfl, hn9, hcase⟩
            rcases hcase with ⟨rfl, L8⟩ | ⟨hE2, L8⟩
            · go_wp2_with fail
              refine (num5 _ _).mono ?_
              rintro e' wn ⟨rfl, rfl⟩
              go_wp2_with fail
              refine L8.count.mono ?_
              rintro e' wk ⟨rfl, L9⟩
              have hcc : (((c : Nat) : Int) != ((c : Nat) : Int)) = false := by simp
              have hcn : (((c : Nat) : Int) != ((hn' : Nat) : Int)) = false := by rw [L9.hlen]; simp
              go_wp2_with fail
              go_roundw
              case rel => exact ⟨i + 1, ts, [], c, c, c, false, n9, hi1.out, by go_num, rfl, rfl, L9, (by simp), (fun _ => ⟨rfl, rfl⟩), by omega, by omega⟩
              case measure => have := hi1.out; simp [intOf]; omega
            · have hE2' : (E2 != 0) = true := by simpa using hE2
              have hE3 : (E2 == 0) = false := by simpa using hE2
              go_wp2_with fail
              refine (num5 _ _).mono ?_
              rintro e' wn ⟨rfl, rfl⟩
              go_wp2_with fail
              go_roundw
              case rel => exact ⟨i + 1, ts, [], safe, c, y, true, n9, hi1.out, by go_num, rfl, rfl, L8, (by simp), (fun z => by cases z), by omega, by omega⟩
              case measure => have := hi1.out; simp [intOf]; omega
        · have z0 := HB0.out _ L2.T
          have z1 := HB1.out _ L2.T
          go_wp2_with fail
          refine (num5 _ _).mono ?_
          rintro e' w3 ⟨rfl, rfl⟩
          have TA : Turn no w3 (w3.alloc (.cells #[] 5)) := (Turn.refl no w3).alloc _
          have LA := L2.rest TA
          have z0a := HB0.out _ LA.T
          have zca := hcell _ LA.T
          have hb3 : Bs w3 (.slice xa tb.length xc) tb := hb.late L2.T (fun z g z1 z2 => z2 (hv z g z1))
          go_wp2_with (at_builtin; refine wpList_append_src rfl (.tmp 71) (.tmp 76) rfl Tryd.underlying55 Tryd.info5 rfl _ [] rfl (own_empty w3 5) _ tb.length (tb.map bv) rfl ?src ?b ?m ?_)
          case src => exact Bs.src Tryd.underlying55 (hb3.turn_no TA)
          case b => simp; omega
          case m => unfold maxLen; simp; omega
          intro v5 w5 O5 g5 _
          have f0 : ∀ q, (Value.slice (some ⟨w3.heap.size, 0, none⟩) 0 0).ownBlock = some q → w3.heap.size ≤ q := fun k q => by cases q; exact Nat.le_refl _
          have t5 : Turn no w3 w5 := TA.fresh g5 f0
          have f5 := g5.fresh f0 (by simp)
          replace O5 : Own w5 5 v5 (tb.map bv) := O5
          obtain ⟨ua, un, uc, rfl⟩ := O5.form
          have TB : Turn no w5 (w5.alloc (.cells #[.slice ua un uc] 55)) := (Turn.refl no w5).alloc _
          have TC := t5.then_no TB
          clear z0a zca LA hb3 g5 f0
          have OH := (Own.nil w3 55).turn_no TC
          go_wp2_with (at_builtin; refine wpList_append_src rfl (.tmp 70) (.tmp 78) rfl Tryd.underlying28 info55 rfl _ [] rfl OH _ 1 [.slice ua un uc] rfl ?src ?b ?m ?_)
          case src => exact src_oneT Tryd.underlying28 w5 _ rfl
          case b => (simp <;> omega)
          case m => unfold maxLen; (simp <;> omega)
          intro v8 w8 O8 g8 _
          replace L2 := L2.pushM hP TC (O5.turn_no TB) f5 O8 g8
          obtain ⟨va, vn, vc, rfl⟩ := O8.form
          clear OH O8 g8 TC TB TA t5 f5 O5 z0 z1
          have z0 := HB0.out _ L2.T
          have z1 := HB1.out _ L2.T
          go_wp2_with fail
          have hYW := HY.out _ L2.T
          refine (has25 _ _ ys hYW _).mono ?_
          rintro e' wh ⟨⟨hb, rfl⟩, rfl⟩
          cases hb
          · go_wp2_with fail
            go_roundw
            case rel => exact ⟨i + 1, ts, [(.slice ua un uc, tb)], safe, c, y, true, n2, hi1.out, by go_num, rfl, rfl, L2, (by simp), (fun z => by cases z), by omega, by omega⟩
            case measure => have := hi1.out; simp [intOf]; omega
          · go_wp2_with fail
            refine L2.calls.mono ?_
            rintro e' wc ⟨rfl, rfl⟩
            go_wp2_with fail
            refine L2.syn_dead.mono ?_
            rintro e' ws ⟨rfl, L8⟩
            go_wp2_with fail
            refine (num5 _ _).mono ?_
            rintro e' wn ⟨rfl, rfl⟩
            go_wp2_with fail
            refine L8.calls.mono ?_
            rintro e' wc2 ⟨rfl, rfl⟩
            have hnn : ((n2 : Int) != (n2 : Int)) = false := by simp
            go_wp2_with fail
            go_roundw
            case rel => exact ⟨i + 1, ts, [(.slice ua un uc, tb)], safe, c, y, true, n2, hi1.out, by go_num, rfl, rfl, L8, (by simp), (fun z => by cases z), by omega, by omega⟩
            case measure => have := hi1.out; simp [intOf]; omega
        · have z0 := HB0.out _ L2.T
          have z1 := HB1.out _ L2.T
          have E0 : (E == 0) = false := by rcases hE with rfl | rfl <;> rfl
          have E4 : (E != 4) = true := by rcases hE with rfl | rfl <;> rfl
          have E63 : (E == 63) = false := by rcases hE with rfl | rfl <;> rfl
          clear hE
          go_wp2_with fail
          refine (num5 _ _).mono ?_
          rintro e' w3 ⟨rfl, rfl⟩
          go_wp2_with fail
          have hYW := HY.out _ L2.T
          refine (has25 _ _ ys hYW _).mono ?_
          rintro e' wh ⟨⟨hb, rfl⟩, rfl⟩
          cases hb
          · go_wp2_with fail
            go_roundw
            case rel => exact ⟨i + 1, ts, [], safe, c, y, true, n2, hi1.out, by go_num, rfl, rfl, L2, (by simp), (fun z => by cases z), by omega, by omega⟩
            case measure => have := hi1.out; simp [intOf]; omega
          · go_wp2_with fail
            refine L2.calls.mono ?_
            rintro e' wc ⟨rfl, rfl⟩
            go_wp2_with fail
            refine L2.syn_dead.mono ?_
            rintro e' ws ⟨rfl, L8⟩
            go_wp2_with fail
            refine (num5 _ _).mono ?_
            rintro e' wn ⟨rfl, rfl⟩
            go_wp2_with fail
            refine L8.calls.mono ?_
            rintro e' wc2 ⟨rfl, rfl⟩
            have hnn : ((n2 : Int) != (n2 : Int)) = false := by simp
            go_wp2_with fail
            go_roundw
            case rel => exact ⟨i + 1, ts, [], safe, c, y, true, n2, hi1.out, by go_num, rfl, rfl, L8, (by simp), (fun z => by cases z), by omega, by omega⟩
            case measure => have := hi1.out; simp [intOf]; omega
      · go_wp2_with fail
        refine (L.app_dead _ _ _).mono ?_
        rintro e' w2 ⟨rfl, L2⟩
        have z0 := HB0.out _ L2.T
        have z1 := HB1.out _ L2.T
        go_wp2_with fail
        refine (num5 _ _).mono ?_
        rintro e' w3 ⟨rfl, rfl⟩
        go_wp2_with fail
        refine L2.calls.mono ?_
        rintro e' w4 ⟨rfl, rfl⟩
        have hnn : ((n : Int) != (n : Int)) = false := by simp
        go_wp2_with fail
        have hYW := HY.out _ L2.T
        refine (has25 _ _ ys hYW _).mono ?_
        rintro e' wh ⟨⟨hb, rfl⟩, rfl⟩
        cases hb
        · go_wp2_with fail
          go_roundw
          case rel => exact ⟨i + 1, ts, ms, safe, c, y, true, n, hi1.out, by go_num, rfl, rfl, L2, hms, hdm, by omega, by omega⟩
          case measure => have := hi1.out; simp [intOf]; omega
        · go_wp2_with fail
          refine L2.calls.mono ?_
          rintro e' wc ⟨rfl, rfl⟩
          go_wp2_with fail
          refine L2.syn_dead.mono ?_
          rintro e' ws ⟨rfl, L8⟩
          go_wp2_with fail
          refine (num5 _ _).mono ?_
          rintro e' wn ⟨rfl, rfl⟩
          go_wp2_with fail
          refine L8.calls.mono ?_
          rintro e' wc2 ⟨rfl, rfl⟩
          have hnn : ((n : Int) != (n : Int)) = false := by simp
          go_wp2_with fail
          go_roundw
          case rel => exact ⟨i + 1, ts, ms, safe, c, y, true, n, hi1.out, by go_num, rfl, rfl, L8, hms, hdm, by omega, by omega⟩
          case measure => have := hi1.out; simp [intOf]; omega
    · have hlt' : ¬ (i : Int) < (N : Int) := by omega
      have hiN : i = N := by omega
      have fin := FIN.out _ _ _ _ _ _ _ _ _ _ L
      replace fin : Hid (∀ e, e = Ending.returned (.tuple #[.bool true, .slice ha hn' hc', .slice ma mn mc, .int .i64 (safe : Nat)]) → Lout W0 P0 q p n0 c0 N e wr) := fun e he => ⟨_, _, ts, ms, safe, c, y, d, n, he, fin, hms, by omega, by omega⟩
      clear hiN
      go_wp2_with fail
      (try simp only [Exit.inBlock, Exit.then])
      refine bodyPost_ret (results_tmp4 rfl _ _ _) rfl ?_
      exact fin.out _ rfl
end
end Go.Proofs.YtbkbecjgphjpkabDoor
