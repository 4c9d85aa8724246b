/- The walk of DigestPieces. -/
import Derived.Test.YtnibmkenbidnfaaDoorG2
import Derived.Test.YtnibmkenbidnfaaDoorInnersW
namespace Go.Proofs.YtnibmkenbidnfaaDoor
open Go.RowKit
set_option linter.unusedVariables false

/-- The script: kinds, numbers, bytes. -/
def Script (w : World) (v : Value) (l : List (Int × Int × Value × List UInt8)) : Prop :=
  (v = .slice none 0 0 ∧ l = []) ∨ ∃ a cap, v = .slice (some a) l.length cap ∧ l.length ≤ cap ∧ cap ≤ maxLen ∧
    ∀ j x, l[j]? = some x → w.cell? (a.add (j * 3)) = some (.int .i64 x.1) ∧ w.cell? (a.add (j * 3 + 1)) = some (.int .i64 x.2.1) ∧ w.cell? (a.add (j * 3 + 2)) = some x.2.2.1 ∧ Bs w x.2.2.1 x.2.2.2 ∧ -9223372036854775808 ≤ x.2.1 ∧ x.2.1 < 9223372036854775808
theorem Script.slice {w : World} {v : Value} {l : List (Int × Int × Value × List UInt8)} (h : Script w v l) : ∃ a cap, v = .slice a l.length cap := by
  rcases h with ⟨rfl, rfl⟩ | ⟨a, cap, rfl, _⟩
  · exact ⟨none, 0, rfl⟩
  · exact ⟨some a, cap, rfl⟩
theorem Script.at {w : World} {a : Option Addr} {n cap : Nat} {l : List (Int × Int × Value × List UInt8)} (h : Script w (.slice a n cap) l) (hp : 0 < l.length) :
    ∃ b off, a = some ⟨b, off, none⟩ ∧ n = l.length ∧ l.length ≤ cap ∧ ∀ j x, l[j]? = some x → w.cell? ⟨b, off + j * 3, none⟩ = some (.int .i64 x.1) ∧ w.cell? ⟨b, off + j * 3 + 1, none⟩ = some (.int .i64 x.2.1) ∧ w.cell? ⟨b, off + j * 3 + 2, none⟩ = some x.2.2.1 ∧ Bs w x.2.2.1 x.2.2.2 ∧ -9223372036854775808 ≤ x.2.1 ∧ x.2.1 < 9223372036854775808 := by
  rcases h with ⟨_, rfl⟩ | ⟨⟨b, off, spot⟩, cap, e, h1, _, h3⟩
  · simp at hp
  · cases e
    have hs : spot = none := by
      have := World.cell?_spot (h3 0 l[0] (by simp [hp])).1
      simpa [Addr.add] using this
    subst hs
    refine ⟨b, off, rfl, rfl, h1, fun j x hx => ?_⟩
    have := h3 j x hx
    rw [Addr.add_lit, Addr.add_lit, Addr.add_lit] at this
    simpa [Nat.add_assoc] using this
/-- How many bytes the script has. -/
def tot (l : List (Int × Int × Value × List UInt8)) : Nat := (l.map (·.2.2.2.length)).sum
theorem tot_succ (l : List (Int × Int × Value × List UInt8)) (i : Nat) (x : Int × Int × Value × List UInt8) (h : l[i]? = some x) : tot (l.take (i + 1)) = tot (l.take i) + x.2.2.2.length := by
  unfold tot
  rw [List.take_add_one, h]
  simp
theorem tot_le (l : List (Int × Int × Value × List UInt8)) (i : Nat) : tot (l.take i) ≤ tot l := by
  unfold tot
  have e : (l.map (·.2.2.2.length)).sum = ((l.map (·.2.2.2.length)).take i).sum + ((l.map (·.2.2.2.length)).drop i).sum := by rw [← List.sum_append, List.take_append_drop]
  rw [List.map_take, e]
  omega
theorem neqH (w : World) (x : List UInt8) : (binOp .neq 35 (.agg ((hashOf x).map bv).toArray) (.agg ((hashOf x).map bv).toArray)).run Tryd.prog w = .ok (.bool false) w := by
  have := neq35 w (hashOf x) (hashOf x) (hashOf_len x) (hashOf_len x)
  rwa [beq_self_eq_true] at this

theorem Own.at {w : World} {e : TypeId} {v : Value} {xs : List Value} (h : Own w e v xs) (hp : 0 < xs.length) : ∃ g cap, v = .slice (some ⟨g, 0, none⟩) xs.length cap ∧ xs.length ≤ cap ∧ cap ≤ maxLen ∧ ∀ j u, xs[j]? = some u → w.cell? ⟨g, j, none⟩ = some u := by
  rcases h.shape with ⟨rfl, rfl⟩ | ⟨g, cap, cur, rfl, hg, h1, h2, _⟩
  · simp at hp
  · exact ⟨g, cap, rfl, h1, h2, fun j u hu => h.cell j u hu⟩

set_option maxRecDepth 100000 in
set_option maxHeartbeats 8000000 in
theorem pieces_walk (w : World) (v : Value) (l : List (Int × Int × Value × List UInt8)) (hS : Script w v l) (hl0 : Laid0 w) (hl1 : Laid1 w) (h2 : 2 ≤ w.heap.size) (hl : l.length ≤ 1099511627776) (ht : tot l ≤ 1099511627776) :
    Calls Tryd.prog 5 #[v] w fun e w' => e = .returned (.bool true) ∧ Turn no w w' := by
  obtain ⟨va, vc, hv⟩ := hS.slice
  subst hv
  have hu := Tryd.underlying35
  go_enter Tryd.func5, Tryd.ntmps5
  go_wp2_with fail
  refine (alive_any _ hl1 h2).mono ?_
  rintro e w1 ⟨rfl, t1⟩
  go_wp2_with fail
  refine (new_any _).mono ?_
  rintro e w2 ⟨p0, rfl, hp0, H0, t2⟩
  have T2 := t1.then_no t2
  have s1 := t1.size
  have s2 := t2.size
  have hp02 : p0 < w2.heap.size := by obtain ⟨arr, hr⟩ := H0.row; exact hr.lt
  clear t1 t2
  go_wp2_with fail
  have B3 : Beside w.heap.size ((w2.alloc (.cells #[.pointer (some ⟨p0, 0, none⟩)] 23)).alloc (.cells #[.slice none 0 0] 22)) (.slice (some ⟨w2.heap.size, 0, none⟩) 1 1) (.slice (some ⟨w2.heap.size + 1, 0, none⟩) 1 1) [p0] [(.slice none 0 0, [])] := by
    refine ⟨?_, ?_, rfl, fun j q x h1 h2 => ?_, fun x hx => ?_, by simp, by simp; omega, fun g hg => by simp [Value.ownBlock] at hg; omega, fun g hg => by simp [Value.ownBlock] at hg; omega, fun x hx g hg => by simp at hx; subst hx; cases hg⟩
    · exact (Own.of (w := w2.alloc (.cells #[.pointer (some ⟨p0, 0, none⟩)] 23)) (e := 23) (xs := [ptr p0]) (heap_alloc_new w2 _) (by simp) (by simp [maxLen]) rfl rfl).turn_no ((Turn.refl no _).alloc _)
    · have := Own.of (w := (w2.alloc (.cells #[.pointer (some ⟨p0, 0, none⟩)] 23)).alloc (.cells #[.slice none 0 0] 22)) (e := 22) (xs := [Value.slice none 0 0]) (cap := 1) (heap_alloc_new _ _) (by simp) (by simp [maxLen]) rfl rfl
      simpa using this
    · obtain ⟨rfl, rfl⟩ : q = p0 ∧ x = (.slice none 0 0, []) := by
        cases j with
        | zero => simp at h1 h2; exact ⟨h1.symm, h2.symm⟩
        | succ j => simp at h1
      exact H0.turn (((Turn.refl no w2).alloc _).alloc _) (fun q => q)
    · simp at hx
      subst hx
      exact Own.nil _ _
  have T3 : Turn no w ((w2.alloc (.cells #[.pointer (some ⟨p0, 0, none⟩)] 23)).alloc (.cells #[.slice none 0 0] 22)) := (T2.alloc _).alloc _
  generalize (w2.alloc (.cells #[.pointer (some ⟨p0, 0, none⟩)] 23)).alloc (.cells #[.slice none 0 0] 22) = w3 at *
  go_loopw [5, 6, 7] (fun vh vt c wr => ∃ (i : Nat) (ps : List Nat) (ts : List (Value × List UInt8)), i ≤ l.length ∧ c = .int .i64 i ∧ Beside w.heap.size wr vh vt ps ts ∧ 0 < ps.length ∧ ps.length ≤ i + 1 ∧ (∀ t ∈ ts, t.2.length ≤ tot (l.take i)) ∧ Turn no w wr) (fun _ _ c _ => l.length - (intOf c).toNat)
  case atStart => exact ⟨0, [p0], [(.slice none 0 0, [])], Nat.zero_le _, rfl, B3, by simp, by simp, by simp, T3⟩
  case round =>
    clear B3 T3 H0 T2
    obtain ⟨i, ps, ts, hi, rfl, Be, hpos, hpl, htx, T⟩ := hrel
    by_cases hlt : i < l.length
    · have hlt' : (i : Int) < (l.length : Int) := by omega
      obtain ⟨⟨kd, on, bv0, bs⟩, hx⟩ : ∃ x, l[i]? = some x := ⟨l[i], List.getElem?_eq_getElem hlt⟩
      obtain ⟨b, off, rfl, _, hcap, hcells⟩ := hS.at (by omega)
      obtain ⟨q0, q1, q2, hbb, on1, on2⟩ := hcells i _ hx
      simp only at q0 q1 q2 hbb on1 on2
      have q0 := T.keep q0 (fun q => q)
      have q1 := T.keep q1 (fun q => q)
      have q2 := T.keep q2 (fun q => q)
      clear hcells
      obtain ⟨ba, bc, hbv⟩ := hbb.slice
      subst hbv
      have hbr := hbb.turn_no T
      have htl := tot_succ l i _ hx
      have htl2 := tot_le l (i + 1)
      simp only at htl
      have hbl := hbb.le
      obtain ⟨bn, hbn⟩ : ∃ bn, Shut (bs.length = bn) := ⟨_, rfl⟩
      rw [show bs.length = bn from hbn.out] at q2 hbb hbr htl hbl
      obtain ⟨gh, ch, hvh, hch, hchm, hcell⟩ := Be.oh.at (by simpa using hpos)
      obtain ⟨gt, ct, hvt, hct, hctm, tcell⟩ := Be.ot.at (by simpa [← Be.len] using hpos)
      rw [List.length_map] at hvh hvt hch hct
      rw [← Be.len] at hvt hct
      subst hvh
      subst hvt
      clear hcell tcell hx
      obtain ⟨n, hn⟩ : ∃ n, Shut (ps.length = n) := ⟨_, rfl⟩
      rw [show ps.length = n from hn.out] at Be hpos hpl hch hct ⊢
      have hn0 : ¬ (n : Int) = 0 := by omega
      have hn00 : ¬ n = 0 := by omega
      have hn01 : ((n : Int) == 0) = false := by simpa using hn00
      have hnp : (0 : Int) < (n : Int) := by omega
      have htm1 := Int.tmod_lt_of_pos on hnp
      have htm2 := Int.lt_tmod_of_pos on hnp
      have hwa : ∀ z, Turn no wr (wr.alloc (.cells z 45)) := fun z => (Turn.refl no wr).alloc _
      by_cases hneg : on.tmod n < 0
      · obtain ⟨kn, hk⟩ : ∃ kn : Nat, on.tmod n + n = (kn : Int) := ⟨(on.tmod n + n).toNat, by omega⟩
        have hkn : kn < n := by omega
        have hkn' : (kn : Int) < (n : Int) := by omega
        obtain ⟨p, hp⟩ : ∃ p, ps[kn]? = some p := ⟨ps[kn]'(by rw [hn.out]; exact hkn), List.getElem?_eq_getElem _⟩
        obtain ⟨⟨tv, tx⟩, htj⟩ : ∃ t, ts[kn]? = some t := ⟨ts[kn]'(by rw [← Be.len, hn.out]; exact hkn), List.getElem?_eq_getElem _⟩
        have hH := Be.hh kn p _ hp htj
        have hO : Own wr 5 tv (tx.map bv) := Be.tt _ (List.mem_of_getElem? htj)
        have hB : Bs wr tv tx := Own.bs hO
        have hlen : tx.length ≤ tot (l.take i) := htx _ (List.mem_of_getElem? htj)
        have c1 : wr.cell? ⟨gh, kn, none⟩ = some (.pointer (some ⟨p, 0, none⟩)) := Be.oh.cell kn (ptr p) (by simp [hp])
        have c2 : wr.cell? ⟨gt, kn, none⟩ = some tv := Be.ot.cell kn tv (by simp [htj])
        have c1' := fun z => (hwa z).keep c1 (fun q => q)
        obtain ⟨ta, tc, htv⟩ := hB.slice
        obtain ⟨tn, htn⟩ : ∃ tn, Shut (tx.length = tn) := ⟨_, rfl⟩
        rw [show tx.length = tn from htn.out] at htv
        subst htv
        have c2' := fun z => (hwa z).keep c2 (fun q => q)
        rcases (show kd = 0 ∨ kd = 1 ∨ kd = 2 ∨ (¬ kd = 0 ∧ ¬ kd = 1 ∧ ¬ kd = 2) by omega) with hkd | hkd | hkd | hkd
        · subst hkd
          go_wp2_with fail
          refine (new_any _).mono ?_
          rintro e w5 ⟨pn, rfl, hpn, Hn, t5⟩
          have t5' : Turn no wr w5 := (hwa _).then_no t5
          have hpn' : wr.heap.size ≤ pn := by simp at hpn; omega
          clear hpn t5
          go_wp2_with (at_builtin; refine wpList_append_src rfl (.tmp 66) (.tmp 68) rfl Tryd.underlying42 info23 rfl _ (ps.map ptr) rfl ((Be.oh.turn_no t5').turn_no ((Turn.refl no w5).alloc _)) _ 1 [ptr pn] rfl (src_one Tryd.underlying42 w5 (ptr pn) rfl) (by simp [show ps.length = n from hn.out]; omega) (by simp [show ps.length = n from hn.out, maxLen]; omega) ?_)
          intro vh2 w6 O6 G6 _
          have hvt6 : Own w6 22 (.slice (some ⟨gt, 0, none⟩) n ct) (ts.map (·.1)) := Be.ot.turn ((t5'.alloc _).of_no.trans G6.turn (fun _ _ q => q)) (fun g hg e => Be.oh.apart Be.ot (by decide) g e hg)
          obtain ⟨ad1, ln1, cp1, rfl⟩ := O6.form
          go_wp2_with (at_builtin; refine wpList_append_src rfl (.tmp 70) (.tmp 71) rfl Tryd.underlying43 info22 rfl _ (ts.map (·.1)) rfl (hvt6.turn_no ((Turn.refl no w6).alloc _)) _ 1 [.slice none 0 0] rfl (src_one Tryd.underlying43 w6 _ rfl) (by simp [← Be.len, show ps.length = n from hn.out]; omega) (by simp [← Be.len, show ps.length = n from hn.out, maxLen]; omega) ?_)
          intro vt2 w7 O7 G7 _
          obtain ⟨B7, t7⟩ := Be.grow (nt := .slice none 0 0) (by have := T.size; omega) hpn' t5' Hn ((Turn.refl no w5).alloc _) O6 G6 ((Turn.refl no w6).alloc _) (Own.nil _ _) (fun g q => by cases q) O7 G7
          have hgh : ∀ g, (Value.slice (some ⟨gh, 0, none⟩) n ch).ownBlock = some g → w.heap.size ≤ g := Be.fh
          have hgt : ∀ g, (Value.slice (some ⟨gt, 0, none⟩) n ct).ownBlock = some g → w.heap.size ≤ g := Be.ft
          have T7 : Turn no w w7 := (T.of_no.trans t7 (fun _ _ q => q)).mono (S := fun k => (Value.slice (some ⟨gh, 0, none⟩) n ch).ownBlock = some k ∨ (Value.slice (some ⟨gt, 0, none⟩) n ct).ownBlock = some k) (fun j hj q => by
            rcases q with q | q
            · have := hgh j q; omega
            · have := hgt j q; omega)
          obtain ⟨ad2, ln2, cp2, rfl⟩ := O7.form
          clear O6 O7 G6 G7 Hn t7 hgh hgt
          go_wp2_with fail
          go_roundw
          case rel =>
            refine ⟨i + 1, ps ++ [pn], _, by omega, by go_num, B7, by simp, by simp [show ps.length = n from hn.out]; omega, fun t ht => ?_, T7⟩
            rcases List.mem_append.1 ht with ht | ht
            · have := htx t ht
              omega
            · simp at ht
              subst ht
              simp
              try omega
          case measure => simp [intOf]; omega
        · subst hkd
          have R8 : ∀ z, Row (wr.alloc (.cells z 45)) wr.heap.size z 45 := fun z => Row.new wr z 45
          have hro := fun W (t : Turn no wr W) => roomy_any W (.slice ba bn bc) bs (hbr.turn_no t) (by rw [show bs.length = bn from hbn.out]; omega)
          have hwm := fun W (h : Hs W p tx) v b hne l => write_made W p tx v bs h b hne l (by have := Be.fp p (List.mem_of_getElem? hp); omega) (by rw [show bs.length = bn from hbn.out]; omega)
          have hpl2 : ∃ d, wr.heap.size = p + 1 + d := ⟨wr.heap.size - (p + 1), by obtain ⟨arr, hr⟩ := hH.row; have := hr.lt; omega⟩
          have hghp : gh ≠ p := fun e => hH.apart Be.oh (by decide) (by rw [e]; rfl)
          have hgtp : gt ≠ p := fun e => hH.apart Be.ot (by decide) (by rw [e]; rfl)
          go_wp2_with fail
          refine (hro _ (hwa _)).mono ?_
          rintro e w5 ⟨vf, rfl, Of, ff, t5⟩
          have R85 := (R8 _).turn t5 (fun q => q)
          have t5' : Turn no wr w5 := (hwa _).then_no t5
          have hfl : ((bs ++ [201, 202]).map bv).length = bn + 2 := by simp [show bs.length = bn from hbn.out]
          obtain ⟨gf, cf, hvf, hcf, hcfm, fcell⟩ := Of.at (by rw [hfl]; omega)
          rw [hfl] at hvf hcf
          subst hvf
          have hgf : ∃ d, gf = wr.heap.size + 1 + d := ⟨gf - (wr.heap.size + 1), by have := ff gf rfl; simp at this; omega⟩
          have hBf := Of.bs
          have hBw := bs_cut hBf bn (by simp [show bs.length = bn from hbn.out])
          have htk : (bs ++ [201, 202]).take bn = bs := by rw [← show bs.length = bn from hbn.out]; exact List.take_left
          rw [htk] at hBw
          clear htk
          have c85 : w5.cell? ⟨wr.heap.size, 2, none⟩ = some (.slice ba bn bc) := R85.cell 2 _ rfl
          have c15 := t5'.keep c1 (fun q => q)
          have hcf' : (bn : Int) ≤ (cf : Int) := by omega
          have hcf0 : ¬ cf = 0 := by omega
          generalize hg8 : wr.heap.size = g8 at *
          clear hro fcell ff t5 R8 hfl
          go_wp2_with fail
          refine wp_region_held_drew (S := fun W => Turn (fun k => k = p) w5 W) (by kernel_rfl) (Turn.refl _ w5).drew (fun hHeld => ?_)
          refine' wpAnyH_take (i := 0) (v := .slice (some ⟨gh, 0, none⟩) n ch) rfl (by kernel_rfl) (by kernel_rfl) (by kernel_rfl) (fun _ _ _ h => h) (Or.inl ⟨by kernel_rfl, fun W hW => ?y1⟩) hHeld ?r1
          · go_simp
          refine' wpAnyH_take (i := 1) (v := .int .i64 kn) rfl (by kernel_rfl) (by kernel_rfl) (by kernel_rfl) (fun _ _ _ h => h) (Or.inl ⟨by kernel_rfl, fun W hW => ?y2⟩) hHeld ?r2
          · go_simp
          refine' wpAnyH_take (i := 2) (v := .pointer (some ⟨gh, kn, none⟩)) rfl (by kernel_rfl) (by kernel_rfl) (by kernel_rfl) (fun _ _ _ h => h) (Or.inl ⟨by kernel_rfl, fun W hW => ?y3⟩) hHeld ?r3
          · go_simp
          refine' wpAnyH_take (i := 3) (v := .pointer (some ⟨p, 0, none⟩)) rfl (by kernel_rfl) (by kernel_rfl) (by kernel_rfl) (fun _ _ _ h => h) (Or.inl ⟨by kernel_rfl, fun W hW => ?y4⟩) hHeld ?r4
          · have c := hW.keep c15 (fun q => hghp q)
            go_simp
          refine' wpAnyH_take (i := 4) (v := .slice (some ⟨gf, 0, none⟩) (bn + 2) cf) rfl (by kernel_rfl) (by kernel_rfl) (by kernel_rfl) (fun _ _ _ h => h) (Or.inl ⟨by kernel_rfl, fun W hW => ?y5⟩) hHeld ?r5
          · go_simp
          refine' wpAnyH_take (i := 5) (v := .pointer (some ⟨g8, 2, none⟩)) rfl (by kernel_rfl) (by kernel_rfl) (by kernel_rfl) (fun _ _ _ h => h) (Or.inl ⟨by kernel_rfl, fun W hW => ?y6⟩) hHeld ?r6
          · go_simp
          refine' wpAnyH_take (i := 6) (v := .slice ba bn bc) rfl (by kernel_rfl) (by kernel_rfl) (by kernel_rfl) (fun _ _ _ h => h) (Or.inl ⟨by kernel_rfl, fun W hW => ?y7⟩) hHeld ?r7
          · have c := hW.keep c85 (fun q => by have q' : g8 = p := q; obtain ⟨d, hd⟩ := hpl2; omega)
            go_simp
          refine' wpAnyH_take (i := 7) (v := .int .i64 bn) rfl (by kernel_rfl) (by kernel_rfl) (by kernel_rfl) (fun _ _ _ h => h) (Or.inl ⟨by kernel_rfl, fun W hW => ?y8⟩) hHeld ?r8
          · go_simp
          refine' wpAnyH_take (i := 8) (v := .slice (some ⟨gf, 0, none⟩) bn cf) rfl (by kernel_rfl) (by kernel_rfl) (by kernel_rfl) (fun _ _ _ h => h) (Or.inl ⟨by kernel_rfl, fun W hW => ?y9⟩) hHeld ?r9
          · go_simp
          refine wpAnyH_ready (rs := [9]) (by kernel_rfl) (by simp) ?_
          refine AllReadyH.cons rfl (fun K hK => ?_) AllReadyH.nil
          go_simp
          have hfp : gf ≠ p := fun e => by obtain ⟨d, hd⟩ := hpl2; obtain ⟨d', hd'⟩ := hgf; omega
          have h8p : g8 ≠ p := fun e => by obtain ⟨d, hd⟩ := hpl2; omega
          refine (hwm w5.drew (hH.turn t5'.drew (fun q => q)) _ (hBw.turn_no (Turn.refl no w5).drew) (fun _ g hg e => by simp [Value.ownBlock] at hg; exact hfp (hg.trans e)) (hl1.turn (T.then_no t5').drew (fun q => q))).mono ?_
          rintro e w6 ⟨rfl, H6, t6⟩
          have t6' : Turn (fun k => k = p) w5 w6 := (Turn.refl no w5).drew.of_no.trans t6 (fun _ _ q => q)
          go_wp2_with fail
          refine hK.out _ _ t6' (fun hHeld => ?_)
          clear hK
          refine wpAnyH_done (by kernel_rfl) ?_ _
          have hpb : w.heap.size ≤ p := Be.fp p (List.mem_of_getElem? hp)
          have c86 := t6'.keep c85 (fun q => h8p q)
          have hBf6 := hBf.turn t6' (fun g hg e => by simp [Value.ownBlock] at hg; exact hfp (hg.trans e))
          have hbb6 := (hbr.turn_no t5').late t6' (fun hne g hg e => by have := hbb.old hne g hg; omega)
          have hkp := kept_any w6 _ _ bs hBf6 hbb6 (by rw [show bs.length = bn from hbn.out]; omega)
          obtain ⟨cur, hRf, hcur⟩ : ∃ cur, Row w5 gf cur 5 ∧ cur.size = cf := by
            rcases Of.shape with ⟨e1, _⟩ | ⟨g', cap', cur, e1, hg, h1, h2, h3, h4⟩
            · cases e1
            · simp at e1
              obtain ⟨rfl, _, rfl⟩ := e1
              exact ⟨cur, hg, h3⟩
          go_wp2_with fail
          refine hkp.mono ?_
          rintro e w7 ⟨rfl, m7, he7⟩
          have t67 : Turn no w6 w7 := by rw [he7]; exact (Turn.refl no w6).drewN m7
          clear he7
          have t7 : Turn (fun k => k = p) w5 w7 := t6'.then_no t67
          have H7 := H6.turn t67 (fun q => q)
          have Rf7 := hRf.turn t7 (fun q => hfp q)
          clear hkp hBf6 hbb6 H6 c86 hRf t6 t6' hHeld
          go_wp2_with fail
          obtain ⟨wo, hwo⟩ : ∃ wo, wo = wr := ⟨wr, rfl⟩
          subst hwo
          go_loopw [12] (fun c wx => ∃ (j : Nat) (cur : Array Value), j ≤ bn + 2 ∧ c = .int .i64 j ∧ Row wx gf cur 5 ∧ cur.size = cf ∧ Turn (fun k => k = gf) w7 wx) (fun c _ => bn + 2 - (intOf c).toNat)
          case atStart => exact ⟨0, cur, Nat.zero_le _, rfl, Rf7, hcur, Turn.refl _ _⟩
          case round =>
            obtain ⟨j, cu, hj, rfl, Rx, hcx, tlx⟩ := hrel
            by_cases hjl : j < bn + 2
            · have hjl' : (j : Int) < (bn : Int) + 2 := by omega
              have cj := Rx.cell j (cu[j]'(by omega)) (by simp [show j < cu.size by omega])
              have fj := Rx.frozen j
              clear hwm
              go_wp2_with fail
              go_roundw
              case rel => exact ⟨j + 1, _, by omega, by go_num, Rx.set j _, by simpa using hcx, tlx.setCell (fun _ => rfl) _⟩
              case measure => simp [intOf]; omega
            · have hjl' : ¬ (j : Int) < (bn : Int) + 2 := by omega
              clear hwm
              have hgtl : gt < wo.heap.size := Be.ot.lt rfl
              have hfl2 : wo.heap.size < gf := by obtain ⟨d, hd⟩ := hgf; omega
              have tX0 : Turn (fun k => k = p ∨ k = gf) wo wr := ((t5'.of_no.trans t7 (fun _ _ q => q)).mono (fun _ _ q => Or.inl q)).trans tlx (fun _ _ q => Or.inr q)
              have tX : Turn (fun k => k = p) wo wr := tX0.mono (fun j hj q => by
                rcases q with q | q
                · exact q
                · omega)
              have c2x := tX.keep c2 (fun q => hgtp q)
              have c8x : wr.cell? ⟨g8, 2, none⟩ = some (.slice ba bn bc) := tlx.keep (t7.keep c85 (fun q => h8p q)) (fun q => by have q' : g8 = gf := q; omega)
              have hBx : Bs wr (.slice ta tn tc) tx := Own.bs (hO.turn tX (fun g hg e => hH.apart hO (by decide) (e ▸ hg)))
              have hbx : Bs wr (.slice ba bn bc) bs := hbr.late tX (fun hne g hg e => by have := hbb.old hne g hg; omega)
              have Hx := H7.turn tlx (fun q => hfp q.symm)
              have hs1 := (hBx.turn_no (Turn.refl no wr).drew).src (P := Tryd.prog) Tryd.underlying22
              rw [show tx.length = tn from htn.out] at hs1
              have htn1 : tn ≤ tot (l.take i) := by rw [← htn.out]; exact hlen
              obtain ⟨v1, w8, hap8, O8, G8, _⟩ := run_append_src (P := Tryd.prog) (t := 22) (tx := 22) Tryd.underlying22 Tryd.info5 rfl 22 wr.drew (.slice none 0 0) [] (Own.nil _ _) (.slice ta tn tc) tn (tx.map bv) hs1 (by simp; omega) (by simp [maxLen]; omega)
              have t8 : Turn no wr w8 := (Turn.refl no wr).drew.fresh G8 (fun g q => by cases q)
              have f8 : ∀ g, v1.ownBlock = some g → wr.heap.size ≤ g := G8.fresh (fun g q => by cases q) (Nat.le_refl _)
              have O8' : Own w8 5 v1 (tx.map bv) := by simpa using O8
              have hs2 := (hbx.turn_no t8).src (P := Tryd.prog) Tryd.underlying22
              rw [show bs.length = bn from hbn.out] at hs2
              obtain ⟨v2, w9, hap9, O9, G9, _⟩ := run_append_src (P := Tryd.prog) (t := 22) (tx := 22) Tryd.underlying22 Tryd.info5 rfl 22 w8 v1 (tx.map bv) O8' (.slice ba bn bc) bn (bs.map bv) hs2 (by simp [show tx.length = tn from htn.out]; omega) (by simp [show tx.length = tn from htn.out, maxLen]; omega)
              have sx := tX.size
              have t9 : Turn no wr w9 := t8.fresh G9 f8
              have f9 : ∀ g, v2.ownBlock = some g → wr.heap.size ≤ g := G9.fresh f8 t8.size
              rw [← List.map_append] at O9
              have hot9 : Own w9 22 (.slice (some ⟨gt, 0, none⟩) n ct) (ts.map (·.1)) := (Be.ot.turn tX (fun g hg e => hH.apart Be.ot (by decide) (e ▸ hg))).turn_no t9
              have c29 : w9.cell? ⟨gt, kn, none⟩ = some (.slice ta tn tc) := t9.keep c2x (fun q => q)
              have f29 : w9.frozen? ⟨gt, kn, none⟩ = false := by
                obtain ⟨cg, hcg⟩ := hot9.obj rfl
                exact Row.frozen hcg kn
              obtain ⟨ad2, ln2, cp2, rfl⟩ := O9.form
              have hS9 : Turn (fun k => k = gt) wr w9 := t9.of_no
              have hS8 : Turn (fun k => k = gt) wr w8 := t8.of_no
              have hSe : Turn (fun k => k = gt) wr (w9.setCell ⟨gt, kn, none⟩ (.slice ad2 ln2 cp2)) := hS9.setCell (fun _ => rfl) _
              have tend : Turn (fun j => j = p ∨ (Value.slice (some ⟨gt, 0, none⟩) n ct).ownBlock = some j) wo (w9.setCell ⟨gt, kn, none⟩ (.slice ad2 ln2 cp2)) := ((tX.then_no t9).mono (S' := fun j => j = p ∨ (Value.slice (some ⟨gt, 0, none⟩) n ct).ownBlock = some j) (fun _ _ q => Or.inl q)).setCell (p := ⟨gt, kn, none⟩) (fun _ => Or.inr rfl) _
              have hte : Turn (fun k => k = gt) w9 (w9.setCell ⟨gt, kn, none⟩ (.slice ad2 ln2 cp2)) := (Turn.refl (fun k => k = gt) w9).setCell (p := ⟨gt, kn, none⟩) (fun _ => rfl) _
              have Bend := Be.set (nt := .slice ad2 ln2 cp2) (tx := tx ++ bs) hp tend (by rw [List.map_set]; exact hot9.setAt kn _) ((Hx.turn t9 (fun q => q)).turn hte (fun e => hgtp e.symm)) (O9.turn hte (fun g hg e => by have := f9 g hg; omega)) (fun g hg => by have := f9 g hg; have := T.size; omega)
              have Tend : Turn no w (w9.setCell ⟨gt, kn, none⟩ (.slice ad2 ln2 cp2)) := (T.of_no.trans tend (fun _ _ q => q)).mono (S := fun j => j = p ∨ (Value.slice (some ⟨gt, 0, none⟩) n ct).ownBlock = some j) (fun j hj q => by
                rcases q with q | q
                · omega
                · have := Be.ft j q; omega)
              have c2d : wr.drew.cell? ⟨gt, kn, none⟩ = some (.slice ta tn tc) := c2x
              clear G8 G9 O8 O8' O9 hs1 hs2 hot9 tend hte t8 t9 f8 f9 tX tX0 hBx hbx Hx H7 t7 tlx Rx
              go_wp2_with fail
              refine wp_region_held_drew (S := fun W => Turn (fun k => k = gt) wr W) (by kernel_rfl) (Turn.refl _ wr).drew (fun hHeld => ?_)
              refine' wpAnyH_take (i := 0) (v := .slice (some ⟨gt, 0, none⟩) n ct) rfl (by kernel_rfl) (by kernel_rfl) (by kernel_rfl) (fun _ _ _ h => h) (Or.inl ⟨by kernel_rfl, fun W hW => ?y10⟩) hHeld ?r10
              · go_simp
              refine' wpAnyH_take (i := 1) (v := .int .i64 kn) rfl (by kernel_rfl) (by kernel_rfl) (by kernel_rfl) (fun _ _ _ h => h) (Or.inl ⟨by kernel_rfl, fun W hW => ?y11⟩) hHeld ?r11
              · go_simp
              refine' wpAnyH_take (i := 2) (v := .slice (some ⟨gt, 0, none⟩) n ct) rfl (by kernel_rfl) (by kernel_rfl) (by kernel_rfl) (fun _ _ _ h => h) (Or.inl ⟨by kernel_rfl, fun W hW => ?y12⟩) hHeld ?r12
              · go_simp
              refine' wpAnyH_take (i := 3) (v := .int .i64 kn) rfl (by kernel_rfl) (by kernel_rfl) (by kernel_rfl) (fun _ _ _ h => h) (Or.inl ⟨by kernel_rfl, fun W hW => ?y13⟩) hHeld ?r13
              · go_simp
              refine' wpAnyH_take (i := 4) (v := .pointer (some ⟨gt, kn, none⟩)) rfl (by kernel_rfl) (by kernel_rfl) (by kernel_rfl) (fun _ _ _ h => h) (Or.inl ⟨by kernel_rfl, fun W hW => ?y14⟩) hHeld ?r14
              · go_simp
              refine' wpAnyH_take (i := 7) (v := .pointer (some ⟨g8, 2, none⟩)) rfl (by kernel_rfl) (by kernel_rfl) (by kernel_rfl) (fun _ _ _ h => h) (Or.inl ⟨by kernel_rfl, fun W hW => ?y15⟩) hHeld ?r15
              · go_simp
              refine' wpAnyH_take (i := 8) (v := .slice ba bn bc) rfl (by kernel_rfl) (by kernel_rfl) (by kernel_rfl) (fun _ _ _ h => h) (Or.inl ⟨by kernel_rfl, fun W hW => ?y16⟩) hHeld ?r16
              · have c := hW.keep c8x (fun q => by have q' : g8 = gt := q; omega)
                go_simp
              refine wpAnyH_ready (rs := [5]) (by kernel_rfl) (by simp) ?_
              refine AllReadyH.cons rfl (fun K hK => ?_) AllReadyH.nil
              go_simp
              refine hK.out _ _ hHeld (fun hHeld => ?_)
              clear hK
              refine wpAnyH_ready (rs := [6]) (by kernel_rfl) (by simp) ?_
              refine AllReadyH.cons rfl (fun K hK => ?_) AllReadyH.nil
              rw [if_pos (by rfl)]
              refine wp_append_run _ _ rfl _ _ rfl rfl hap8 ?_
              refine hK.out _ _ hS8 (fun hHeld => ?_)
              clear hK
              refine wpAnyH_ready (rs := [9]) (by kernel_rfl) (by simp) ?_
              refine AllReadyH.cons rfl (fun K hK => ?_) AllReadyH.nil
              rw [if_pos (by rfl)]
              refine wp_append_run _ _ rfl _ _ rfl rfl hap9 ?_
              refine hK.out _ _ hS9 (fun hHeld => ?_)
              clear hK
              refine wpAnyH_ready (rs := [10]) (by kernel_rfl) (by simp) ?_
              refine AllReadyH.cons rfl (fun K hK => ?_) AllReadyH.nil
              go_simp
              refine hK.out _ _ hS9 (fun hHeld => ?_)
              clear hK
              refine wpAnyH_ready (rs := [11]) (by kernel_rfl) (by simp) ?_
              refine AllReadyH.cons rfl (fun K hK => ?_) AllReadyH.nil
              go_simp
              refine hK.out _ _ hSe (fun hHeld => ?_)
              clear hK
              refine wpAnyH_done (by kernel_rfl) ?_ _
              go_wp2_with fail
              go_roundw
              case rel =>
                refine ⟨i + 1, ps, _, by omega, by go_num, Bend, by rw [show ps.length = n from hn.out]; omega, by rw [show ps.length = n from hn.out]; omega, fun t ht => ?_, Tend⟩
                rcases List.mem_or_eq_of_mem_set ht with ht | ht
                · have := htx t ht
                  omega
                · subst ht
                  simp [show tx.length = tn from htn.out, show bs.length = bn from hbn.out]
                  omega
              case measure => simp [intOf]; omega
        · subst hkd
          have hcp := fun W (t : Turn no wr W) => copy_made W p tx (hH.turn t (fun q => q))
          go_wp2_with fail
          refine (hcp _ (hwa _)).mono ?_
          rintro e w5 ⟨pn, rfl, hpn, Hn, t5⟩
          have t5' : Turn no wr w5 := (hwa _).then_no t5
          have hpn' : wr.heap.size ≤ pn := by simp at hpn; omega
          clear hpn t5 hcp
          go_wp2_with (at_builtin; refine wpList_append_src rfl (.tmp 122) (.tmp 124) rfl Tryd.underlying42 info23 rfl _ (ps.map ptr) rfl ((Be.oh.turn_no t5').turn_no ((Turn.refl no w5).alloc _)) _ 1 [ptr pn] rfl (src_one Tryd.underlying42 w5 (ptr pn) rfl) (by simp [show ps.length = n from hn.out]; omega) (by simp [show ps.length = n from hn.out, maxLen]; omega) ?_)
          intro vh2 w6 O6 G6 _
          have a6 := (t5'.alloc _).of_no.trans G6.turn (fun _ _ q => q)
          have hvt6 : Own w6 22 (.slice (some ⟨gt, 0, none⟩) n ct) (ts.map (·.1)) := Be.ot.turn a6 (fun g hg e => Be.oh.apart Be.ot (by decide) g e hg)
          have c26 : w6.cell? ⟨gt, kn, none⟩ = some (.slice ta tn tc) := hvt6.cell kn _ (by simp [htj])
          have hO6 := hO.turn a6 (fun g hg e => hO.apart Be.oh (by decide) g hg e)
          have hB6 : Bs w6 (.slice ta tn tc) tx := Own.bs hO6
          have hsrc := hB6.src (P := Tryd.prog) Tryd.underlying22
          rw [show tx.length = tn from htn.out] at hsrc
          have htn1 : tn ≤ tot (l.take i) := by rw [← htn.out]; exact hlen
          obtain ⟨ad1, ln1, cp1, rfl⟩ := O6.form
          clear a6 hO6
          go_wp2_with (at_builtin; refine wpList_append_src rfl (.const (.slice none 0 0)) (.tmp 130) rfl Tryd.underlying22 Tryd.info5 rfl _ [] rfl (Own.nil _ _) _ tn (tx.map bv) rfl hsrc (by simp; omega) (by simp [maxLen]; omega) ?_)
          intro nt w6a O6a G6a _
          have t6a : Turn no w6 w6a := (Turn.refl no w6).fresh G6a (fun g q => by cases q)
          have f6a : ∀ g, nt.ownBlock = some g → w6.heap.size ≤ g := G6a.fresh (fun g q => by cases q) (Nat.le_refl _)
          have O6a' : Own w6a 5 nt (tx.map bv) := by simpa using O6a
          have s6 := G6.turn.size
          have s5 := t5'.size
          obtain ⟨ad3, ln3, cp3, rfl⟩ := O6a'.form
          clear O6a G6a
          go_wp2_with (at_builtin; refine wpList_append_src rfl (.tmp 126) (.tmp 132) rfl Tryd.underlying43 info22 rfl _ (ts.map (·.1)) rfl ((hvt6.turn_no t6a).turn_no ((Turn.refl no w6a).alloc _)) _ 1 [.slice ad3 ln3 cp3] rfl (src_one Tryd.underlying43 w6a _ rfl) (by simp [← Be.len, show ps.length = n from hn.out]; omega) (by simp [← Be.len, show ps.length = n from hn.out, maxLen]; omega) ?_)
          intro vt2 w7 O7 G7 _
          obtain ⟨B7, t7⟩ := Be.grow (nt := .slice ad3 ln3 cp3) (by have := T.size; omega) hpn' t5' Hn ((Turn.refl no w5).alloc _) O6 G6 (t6a.alloc _) (O6a'.turn_no ((Turn.refl no w6a).alloc _)) (fun g q => by have := f6a g q; have := T.size; simp at s6; omega) O7 G7
          have hgh : ∀ g, (Value.slice (some ⟨gh, 0, none⟩) n ch).ownBlock = some g → w.heap.size ≤ g := Be.fh
          have hgt : ∀ g, (Value.slice (some ⟨gt, 0, none⟩) n ct).ownBlock = some g → w.heap.size ≤ g := Be.ft
          have T7 : Turn no w w7 := (T.of_no.trans t7 (fun _ _ q => q)).mono (S := fun k => (Value.slice (some ⟨gh, 0, none⟩) n ch).ownBlock = some k ∨ (Value.slice (some ⟨gt, 0, none⟩) n ct).ownBlock = some k) (fun j hj q => by
            rcases q with q | q
            · have := hgh j q; omega
            · have := hgt j q; omega)
          obtain ⟨ad2, ln2, cp2, rfl⟩ := O7.form
          clear O6 O7 G6 G7 Hn t7 hgh hgt
          go_wp2_with fail
          go_roundw
          case rel =>
            refine ⟨i + 1, ps ++ [pn], _, by omega, by go_num, B7, by simp, by simp [show ps.length = n from hn.out]; omega, fun t ht => ?_, T7⟩
            rcases List.mem_append.1 ht with ht | ht
            · have := htx t ht
              omega
            · simp at ht
              subst ht
              simp
              try omega
          case measure => simp [intOf]; omega
        · have hk0 : ¬ kd = 0 := hkd.1
          have hk1 : ¬ kd = 1 := hkd.2.1
          have hk2 : ¬ kd = 2 := hkd.2.2
          have hrs := fun W (b : Bs W (.slice ta tn tc) tx) l h2 => rsum_all W (.slice ta tn tc) tx b l h2 (by omega)
          have hne := fun W => neqH W tx
          have hHo := hv_one tx
          have hHs := hv_size tx
          have hHi := hv_info tx
          have hsm := fun W (t : Turn no wr W) => sum_made W p tx (hH.turn t (fun q => q)) (hl1.turn (T.then_no t) (fun q => q)) (by have := (T.then_no t).size; omega) (by omega)
          rw [show hv tx = ((hashOf tx).map bv).toArray from rfl] at hsm hrs hHo hHs hHi
          have hHl : ((hashOf tx).map bv).length = 32 := by simp [hashOf_len]
          generalize (hashOf tx).map bv = HL at *
          have hHi' : (Tryd.prog.info? 35).map (·.size) = some HL.length := by rw [hHl]; exact size35
          go_wp2_with fail
          refine (hsm _ (hwa _)).mono ?_
          rintro e w5 ⟨rfl, t5⟩
          have t5' : Turn no wr w5 := (hwa _).then_no t5
          go_wp2_with (refine wpList_store_row rfl 35 (.tmp 14) (.tmp 53) rfl w5.heap.size HL.toArray rfl rfl 35 _ (heap_alloc_new w5 _) hHi (by rw [hHs]; kernel_rfl) hHo ?_)
          rw [World.setRow_alloc_new]
          have t6 : Turn no wr (w5.alloc (.cells HL.toArray 35)) := t5'.alloc _
          have R6 := Row.new w5 HL.toArray 35
          generalize w5.alloc (.cells HL.toArray 35) = w6 at *
          generalize w5.heap.size = g16 at *
          clear hsm t5 t5'
          refine wp_region_held_drew (S := fun W => Turn no w6 W) (by kernel_rfl) (Turn.refl _ w6).drew (fun hHeld => ?_)
          refine' wpAnyH_take (i := 0) (v := _) rfl (by kernel_rfl) (by kernel_rfl) (by kernel_rfl) (fun _ _ _ h => h) (yieldsIf_load_mid (by kernel_rfl) _ _ rfl _ _ rfl HL _ (fun W h => (R6.turn h (fun q => q)).range) hu rfl hHi') hHeld ?rl24
          refine' wpAnyH_take (i := 1) (v := .slice (some ⟨gt, 0, none⟩) n ct) rfl (by kernel_rfl) (by kernel_rfl) (by kernel_rfl) (fun _ _ _ h => h) (Or.inl ⟨by kernel_rfl, fun W hW => ?y17⟩) hHeld ?r17
          · go_simp
          refine' wpAnyH_take (i := 2) (v := .int .i64 kn) rfl (by kernel_rfl) (by kernel_rfl) (by kernel_rfl) (fun _ _ _ h => h) (Or.inl ⟨by kernel_rfl, fun W hW => ?y18⟩) hHeld ?r18
          · go_simp
          refine' wpAnyH_take (i := 3) (v := .pointer (some ⟨gt, kn, none⟩)) rfl (by kernel_rfl) (by kernel_rfl) (by kernel_rfl) (fun _ _ _ h => h) (Or.inl ⟨by kernel_rfl, fun W hW => ?y19⟩) hHeld ?r19
          · go_simp
          refine' wpAnyH_take (i := 4) (v := .slice ta tn tc) rfl (by kernel_rfl) (by kernel_rfl) (by kernel_rfl) (fun _ _ _ h => h) (Or.inl ⟨by kernel_rfl, fun W hW => ?y20⟩) hHeld ?r20
          · have c := (t6.then_no hW).keep c2 (fun q => q)
            go_simp
          refine wpAnyH_ready (rs := [5]) (by kernel_rfl) (by simp) ?_
          refine AllReadyH.cons rfl (fun K hK => ?_) AllReadyH.nil
          go_simp
          refine (hrs _ (hB.turn_no t6.drew) (hl0.turn (T.then_no t6).drew (fun q => q)) (by have := (T.then_no t6).drew.size; omega)).mono ?_
          rintro e w7 ⟨rfl, t7⟩
          have t7' : Turn no w6 w7 := (Turn.refl no w6).drew.then_no t7
          go_wp2_with fail
          refine hK.out _ _ t7' (fun hHeld => ?_)
          clear hK
          refine wpAnyH_ready (rs := [6]) (by kernel_rfl) (by simp) ?_
          refine AllReadyH.cons rfl (fun K hK => ?_) AllReadyH.nil
          go_simp
          refine hK.out _ _ hHeld (fun hHeld => ?_)
          clear hK
          refine wpAnyH_done (by kernel_rfl) ?_ _
          have T7 := t6.then_no t7'
          go_wp2_with fail
          go_roundw
          case rel => exact ⟨i + 1, ps, ts, by omega, by go_num, Be.turn_no T7, by rw [hn.out]; omega, by rw [hn.out]; omega, fun t ht => by have := htx t ht; omega, T.then_no T7⟩
          case measure => simp [intOf]; omega
      · obtain ⟨kn, hk⟩ : ∃ kn : Nat, on.tmod n = (kn : Int) := ⟨(on.tmod n).toNat, by omega⟩
        have hkn : kn < n := by omega
        have hkn' : (kn : Int) < (n : Int) := by omega
        clear hneg htm1 htm2
        obtain ⟨p, hp⟩ : ∃ p, ps[kn]? = some p := ⟨ps[kn]'(by rw [hn.out]; exact hkn), List.getElem?_eq_getElem _⟩
        obtain ⟨⟨tv, tx⟩, htj⟩ : ∃ t, ts[kn]? = some t := ⟨ts[kn]'(by rw [← Be.len, hn.out]; exact hkn), List.getElem?_eq_getElem _⟩
        have hH := Be.hh kn p _ hp htj
        have hO : Own wr 5 tv (tx.map bv) := Be.tt _ (List.mem_of_getElem? htj)
        have hB : Bs wr tv tx := Own.bs hO
        have hlen : tx.length ≤ tot (l.take i) := htx _ (List.mem_of_getElem? htj)
        have c1 : wr.cell? ⟨gh, kn, none⟩ = some (.pointer (some ⟨p, 0, none⟩)) := Be.oh.cell kn (ptr p) (by simp [hp])
        have c2 : wr.cell? ⟨gt, kn, none⟩ = some tv := Be.ot.cell kn tv (by simp [htj])
        have c1' := fun z => (hwa z).keep c1 (fun q => q)
        obtain ⟨ta, tc, htv⟩ := hB.slice
        obtain ⟨tn, htn⟩ : ∃ tn, Shut (tx.length = tn) := ⟨_, rfl⟩
        rw [show tx.length = tn from htn.out] at htv
        subst htv
        have c2' := fun z => (hwa z).keep c2 (fun q => q)
        rcases (show kd = 0 ∨ kd = 1 ∨ kd = 2 ∨ (¬ kd = 0 ∧ ¬ kd = 1 ∧ ¬ kd = 2) by omega) with hkd | hkd | hkd | hkd
        · subst hkd
          go_wp2_with fail
          refine (new_any _).mono ?_
          rintro e w5 ⟨pn, rfl, hpn, Hn, t5⟩
          have t5' : Turn no wr w5 := (hwa _).then_no t5
          have hpn' : wr.heap.size ≤ pn := by simp at hpn; omega
          clear hpn t5
          go_wp2_with (at_builtin; refine wpList_append_src rfl (.tmp 66) (.tmp 68) rfl Tryd.underlying42 info23 rfl _ (ps.map ptr) rfl ((Be.oh.turn_no t5').turn_no ((Turn.refl no w5).alloc _)) _ 1 [ptr pn] rfl (src_one Tryd.underlying42 w5 (ptr pn) rfl) (by simp [show ps.length = n from hn.out]; omega) (by simp [show ps.length = n from hn.out, maxLen]; omega) ?_)
          intro vh2 w6 O6 G6 _
          have hvt6 : Own w6 22 (.slice (some ⟨gt, 0, none⟩) n ct) (ts.map (·.1)) := Be.ot.turn ((t5'.alloc _).of_no.trans G6.turn (fun _ _ q => q)) (fun g hg e => Be.oh.apart Be.ot (by decide) g e hg)
          obtain ⟨ad1, ln1, cp1, rfl⟩ := O6.form
          go_wp2_with (at_builtin; refine wpList_append_src rfl (.tmp 70) (.tmp 71) rfl Tryd.underlying43 info22 rfl _ (ts.map (·.1)) rfl (hvt6.turn_no ((Turn.refl no w6).alloc _)) _ 1 [.slice none 0 0] rfl (src_one Tryd.underlying43 w6 _ rfl) (by simp [← Be.len, show ps.length = n from hn.out]; omega) (by simp [← Be.len, show ps.length = n from hn.out, maxLen]; omega) ?_)
          intro vt2 w7 O7 G7 _
          obtain ⟨B7, t7⟩ := Be.grow (nt := .slice none 0 0) (by have := T.size; omega) hpn' t5' Hn ((Turn.refl no w5).alloc _) O6 G6 ((Turn.refl no w6).alloc _) (Own.nil _ _) (fun g q => by cases q) O7 G7
          have hgh : ∀ g, (Value.slice (some ⟨gh, 0, none⟩) n ch).ownBlock = some g → w.heap.size ≤ g := Be.fh
          have hgt : ∀ g, (Value.slice (some ⟨gt, 0, none⟩) n ct).ownBlock = some g → w.heap.size ≤ g := Be.ft
          have T7 : Turn no w w7 := (T.of_no.trans t7 (fun _ _ q => q)).mono (S := fun k => (Value.slice (some ⟨gh, 0, none⟩) n ch).ownBlock = some k ∨ (Value.slice (some ⟨gt, 0, none⟩) n ct).ownBlock = some k) (fun j hj q => by
            rcases q with q | q
            · have := hgh j q; omega
            · have := hgt j q; omega)
          obtain ⟨ad2, ln2, cp2, rfl⟩ := O7.form
          clear O6 O7 G6 G7 Hn t7 hgh hgt
          go_wp2_with fail
          go_roundw
          case rel =>
            refine ⟨i + 1, ps ++ [pn], _, by omega, by go_num, B7, by simp, by simp [show ps.length = n from hn.out]; omega, fun t ht => ?_, T7⟩
            rcases List.mem_append.1 ht with ht | ht
            · have := htx t ht
              omega
            · simp at ht
              subst ht
              simp
              try omega
          case measure => simp [intOf]; omega
        · subst hkd
          have R8 : ∀ z, Row (wr.alloc (.cells z 45)) wr.heap.size z 45 := fun z => Row.new wr z 45
          have hro := fun W (t : Turn no wr W) => roomy_any W (.slice ba bn bc) bs (hbr.turn_no t) (by rw [show bs.length = bn from hbn.out]; omega)
          have hwm := fun W (h : Hs W p tx) v b hne l => write_made W p tx v bs h b hne l (by have := Be.fp p (List.mem_of_getElem? hp); omega) (by rw [show bs.length = bn from hbn.out]; omega)
          have hpl2 : ∃ d, wr.heap.size = p + 1 + d := ⟨wr.heap.size - (p + 1), by obtain ⟨arr, hr⟩ := hH.row; have := hr.lt; omega⟩
          have hghp : gh ≠ p := fun e => hH.apart Be.oh (by decide) (by rw [e]; rfl)
          have hgtp : gt ≠ p := fun e => hH.apart Be.ot (by decide) (by rw [e]; rfl)
          go_wp2_with fail
          refine (hro _ (hwa _)).mono ?_
          rintro e w5 ⟨vf, rfl, Of, ff, t5⟩
          have R85 := (R8 _).turn t5 (fun q => q)
          have t5' : Turn no wr w5 := (hwa _).then_no t5
          have hfl : ((bs ++ [201, 202]).map bv).length = bn + 2 := by simp [show bs.length = bn from hbn.out]
          obtain ⟨gf, cf, hvf, hcf, hcfm, fcell⟩ := Of.at (by rw [hfl]; omega)
          rw [hfl] at hvf hcf
          subst hvf
          have hgf : ∃ d, gf = wr.heap.size + 1 + d := ⟨gf - (wr.heap.size + 1), by have := ff gf rfl; simp at this; omega⟩
          have hBf := Of.bs
          have hBw := bs_cut hBf bn (by simp [show bs.length = bn from hbn.out])
          have htk : (bs ++ [201, 202]).take bn = bs := by rw [← show bs.length = bn from hbn.out]; exact List.take_left
          rw [htk] at hBw
          clear htk
          have c85 : w5.cell? ⟨wr.heap.size, 2, none⟩ = some (.slice ba bn bc) := R85.cell 2 _ rfl
          have c15 := t5'.keep c1 (fun q => q)
          have hcf' : (bn : Int) ≤ (cf : Int) := by omega
          have hcf0 : ¬ cf = 0 := by omega
          generalize hg8 : wr.heap.size = g8 at *
          clear hro fcell ff t5 R8 hfl
          go_wp2_with fail
          refine wp_region_held_drew (S := fun W => Turn (fun k => k = p) w5 W) (by kernel_rfl) (Turn.refl _ w5).drew (fun hHeld => ?_)
          refine' wpAnyH_take (i := 0) (v := .slice (some ⟨gh, 0, none⟩) n ch) rfl (by kernel_rfl) (by kernel_rfl) (by kernel_rfl) (fun _ _ _ h => h) (Or.inl ⟨by kernel_rfl, fun W hW => ?y21⟩) hHeld ?r21
          · go_simp
          refine' wpAnyH_take (i := 1) (v := .int .i64 kn) rfl (by kernel_rfl) (by kernel_rfl) (by kernel_rfl) (fun _ _ _ h => h) (Or.inl ⟨by kernel_rfl, fun W hW => ?y22⟩) hHeld ?r22
          · go_simp
          refine' wpAnyH_take (i := 2) (v := .pointer (some ⟨gh, kn, none⟩)) rfl (by kernel_rfl) (by kernel_rfl) (by kernel_rfl) (fun _ _ _ h => h) (Or.inl ⟨by kernel_rfl, fun W hW => ?y23⟩) hHeld ?r23
          · go_simp
          refine' wpAnyH_take (i := 3) (v := .pointer (some ⟨p, 0, none⟩)) rfl (by kernel_rfl) (by kernel_rfl) (by kernel_rfl) (fun _ _ _ h => h) (Or.inl ⟨by kernel_rfl, fun W hW => ?y24⟩) hHeld ?r24
          · have c := hW.keep c15 (fun q => hghp q)
            go_simp
          refine' wpAnyH_take (i := 4) (v := .slice (some ⟨gf, 0, none⟩) (bn + 2) cf) rfl (by kernel_rfl) (by kernel_rfl) (by kernel_rfl) (fun _ _ _ h => h) (Or.inl ⟨by kernel_rfl, fun W hW => ?y25⟩) hHeld ?r25
          · go_simp
          refine' wpAnyH_take (i := 5) (v := .pointer (some ⟨g8, 2, none⟩)) rfl (by kernel_rfl) (by kernel_rfl) (by kernel_rfl) (fun _ _ _ h => h) (Or.inl ⟨by kernel_rfl, fun W hW => ?y26⟩) hHeld ?r26
          · go_simp
          refine' wpAnyH_take (i := 6) (v := .slice ba bn bc) rfl (by kernel_rfl) (by kernel_rfl) (by kernel_rfl) (fun _ _ _ h => h) (Or.inl ⟨by kernel_rfl, fun W hW => ?y27⟩) hHeld ?r27
          · have c := hW.keep c85 (fun q => by have q' : g8 = p := q; obtain ⟨d, hd⟩ := hpl2; omega)
            go_simp
          refine' wpAnyH_take (i := 7) (v := .int .i64 bn) rfl (by kernel_rfl) (by kernel_rfl) (by kernel_rfl) (fun _ _ _ h => h) (Or.inl ⟨by kernel_rfl, fun W hW => ?y28⟩) hHeld ?r28
          · go_simp
          refine' wpAnyH_take (i := 8) (v := .slice (some ⟨gf, 0, none⟩) bn cf) rfl (by kernel_rfl) (by kernel_rfl) (by kernel_rfl) (fun _ _ _ h => h) (Or.inl ⟨by kernel_rfl, fun W hW => ?y29⟩) hHeld ?r29
          · go_simp
          refine wpAnyH_ready (rs := [9]) (by kernel_rfl) (by simp) ?_
          refine AllReadyH.cons rfl (fun K hK => ?_) AllReadyH.nil
          go_simp
          have hfp : gf ≠ p := fun e => by obtain ⟨d, hd⟩ := hpl2; obtain ⟨d', hd'⟩ := hgf; omega
          have h8p : g8 ≠ p := fun e => by obtain ⟨d, hd⟩ := hpl2; omega
          refine (hwm w5.drew (hH.turn t5'.drew (fun q => q)) _ (hBw.turn_no (Turn.refl no w5).drew) (fun _ g hg e => by simp [Value.ownBlock] at hg; exact hfp (hg.trans e)) (hl1.turn (T.then_no t5').drew (fun q => q))).mono ?_
          rintro e w6 ⟨rfl, H6, t6⟩
          have t6' : Turn (fun k => k = p) w5 w6 := (Turn.refl no w5).drew.of_no.trans t6 (fun _ _ q => q)
          go_wp2_with fail
          refine hK.out _ _ t6' (fun hHeld => ?_)
          clear hK
          refine wpAnyH_done (by kernel_rfl) ?_ _
          have hpb : w.heap.size ≤ p := Be.fp p (List.mem_of_getElem? hp)
          have c86 := t6'.keep c85 (fun q => h8p q)
          have hBf6 := hBf.turn t6' (fun g hg e => by simp [Value.ownBlock] at hg; exact hfp (hg.trans e))
          have hbb6 := (hbr.turn_no t5').late t6' (fun hne g hg e => by have := hbb.old hne g hg; omega)
          have hkp := kept_any w6 _ _ bs hBf6 hbb6 (by rw [show bs.length = bn from hbn.out]; omega)
          obtain ⟨cur, hRf, hcur⟩ : ∃ cur, Row w5 gf cur 5 ∧ cur.size = cf := by
            rcases Of.shape with ⟨e1, _⟩ | ⟨g', cap', cur, e1, hg, h1, h2, h3, h4⟩
            · cases e1
            · simp at e1
              obtain ⟨rfl, _, rfl⟩ := e1
              exact ⟨cur, hg, h3⟩
          go_wp2_with fail
          refine hkp.mono ?_
          rintro e w7 ⟨rfl, m7, he7⟩
          have t67 : Turn no w6 w7 := by rw [he7]; exact (Turn.refl no w6).drewN m7
          clear he7
          have t7 : Turn (fun k => k = p) w5 w7 := t6'.then_no t67
          have H7 := H6.turn t67 (fun q => q)
          have Rf7 := hRf.turn t7 (fun q => hfp q)
          clear hkp hBf6 hbb6 H6 c86 hRf t6 t6' hHeld
          go_wp2_with fail
          obtain ⟨wo, hwo⟩ : ∃ wo, wo = wr := ⟨wr, rfl⟩
          subst hwo
          go_loopw [12] (fun c wx => ∃ (j : Nat) (cur : Array Value), j ≤ bn + 2 ∧ c = .int .i64 j ∧ Row wx gf cur 5 ∧ cur.size = cf ∧ Turn (fun k => k = gf) w7 wx) (fun c _ => bn + 2 - (intOf c).toNat)
          case atStart => exact ⟨0, cur, Nat.zero_le _, rfl, Rf7, hcur, Turn.refl _ _⟩
          case round =>
            obtain ⟨j, cu, hj, rfl, Rx, hcx, tlx⟩ := hrel
            by_cases hjl : j < bn + 2
            · have hjl' : (j : Int) < (bn : Int) + 2 := by omega
              have cj := Rx.cell j (cu[j]'(by omega)) (by simp [show j < cu.size by omega])
              have fj := Rx.frozen j
              clear hwm
              go_wp2_with fail
              go_roundw
              case rel => exact ⟨j + 1, _, by omega, by go_num, Rx.set j _, by simpa using hcx, tlx.setCell (fun _ => rfl) _⟩
              case measure => simp [intOf]; omega
            · have hjl' : ¬ (j : Int) < (bn : Int) + 2 := by omega
              clear hwm
              have hgtl : gt < wo.heap.size := Be.ot.lt rfl
              have hfl2 : wo.heap.size < gf := by obtain ⟨d, hd⟩ := hgf; omega
              have tX0 : Turn (fun k => k = p ∨ k = gf) wo wr := ((t5'.of_no.trans t7 (fun _ _ q => q)).mono (fun _ _ q => Or.inl q)).trans tlx (fun _ _ q => Or.inr q)
              have tX : Turn (fun k => k = p) wo wr := tX0.mono (fun j hj q => by
                rcases q with q | q
                · exact q
                · omega)
              have c2x := tX.keep c2 (fun q => hgtp q)
              have c8x : wr.cell? ⟨g8, 2, none⟩ = some (.slice ba bn bc) := tlx.keep (t7.keep c85 (fun q => h8p q)) (fun q => by have q' : g8 = gf := q; omega)
              have hBx : Bs wr (.slice ta tn tc) tx := Own.bs (hO.turn tX (fun g hg e => hH.apart hO (by decide) (e ▸ hg)))
              have hbx : Bs wr (.slice ba bn bc) bs := hbr.late tX (fun hne g hg e => by have := hbb.old hne g hg; omega)
              have Hx := H7.turn tlx (fun q => hfp q.symm)
              have hs1 := (hBx.turn_no (Turn.refl no wr).drew).src (P := Tryd.prog) Tryd.underlying22
              rw [show tx.length = tn from htn.out] at hs1
              have htn1 : tn ≤ tot (l.take i) := by rw [← htn.out]; exact hlen
              obtain ⟨v1, w8, hap8, O8, G8, _⟩ := run_append_src (P := Tryd.prog) (t := 22) (tx := 22) Tryd.underlying22 Tryd.info5 rfl 22 wr.drew (.slice none 0 0) [] (Own.nil _ _) (.slice ta tn tc) tn (tx.map bv) hs1 (by simp; omega) (by simp [maxLen]; omega)
              have t8 : Turn no wr w8 := (Turn.refl no wr).drew.fresh G8 (fun g q => by cases q)
              have f8 : ∀ g, v1.ownBlock = some g → wr.heap.size ≤ g := G8.fresh (fun g q => by cases q) (Nat.le_refl _)
              have O8' : Own w8 5 v1 (tx.map bv) := by simpa using O8
              have hs2 := (hbx.turn_no t8).src (P := Tryd.prog) Tryd.underlying22
              rw [show bs.length = bn from hbn.out] at hs2
              obtain ⟨v2, w9, hap9, O9, G9, _⟩ := run_append_src (P := Tryd.prog) (t := 22) (tx := 22) Tryd.underlying22 Tryd.info5 rfl 22 w8 v1 (tx.map bv) O8' (.slice ba bn bc) bn (bs.map bv) hs2 (by simp [show tx.length = tn from htn.out]; omega) (by simp [show tx.length = tn from htn.out, maxLen]; omega)
              have sx := tX.size
              have t9 : Turn no wr w9 := t8.fresh G9 f8
              have f9 : ∀ g, v2.ownBlock = some g → wr.heap.size ≤ g := G9.fresh f8 t8.size
              rw [← List.map_append] at O9
              have hot9 : Own w9 22 (.slice (some ⟨gt, 0, none⟩) n ct) (ts.map (·.1)) := (Be.ot.turn tX (fun g hg e => hH.apart Be.ot (by decide) (e ▸ hg))).turn_no t9
              have c29 : w9.cell? ⟨gt, kn, none⟩ = some (.slice ta tn tc) := t9.keep c2x (fun q => q)
              have f29 : w9.frozen? ⟨gt, kn, none⟩ = false := by
                obtain ⟨cg, hcg⟩ := hot9.obj rfl
                exact Row.frozen hcg kn
              obtain ⟨ad2, ln2, cp2, rfl⟩ := O9.form
              have hS9 : Turn (fun k => k = gt) wr w9 := t9.of_no
              have hS8 : Turn (fun k => k = gt) wr w8 := t8.of_no
              have hSe : Turn (fun k => k = gt) wr (w9.setCell ⟨gt, kn, none⟩ (.slice ad2 ln2 cp2)) := hS9.setCell (fun _ => rfl) _
              have tend : Turn (fun j => j = p ∨ (Value.slice (some ⟨gt, 0, none⟩) n ct).ownBlock = some j) wo (w9.setCell ⟨gt, kn, none⟩ (.slice ad2 ln2 cp2)) := ((tX.then_no t9).mono (S' := fun j => j = p ∨ (Value.slice (some ⟨gt, 0, none⟩) n ct).ownBlock = some j) (fun _ _ q => Or.inl q)).setCell (p := ⟨gt, kn, none⟩) (fun _ => Or.inr rfl) _
              have hte : Turn (fun k => k = gt) w9 (w9.setCell ⟨gt, kn, none⟩ (.slice ad2 ln2 cp2)) := (Turn.refl (fun k => k = gt) w9).setCell (p := ⟨gt, kn, none⟩) (fun _ => rfl) _
              have Bend := Be.set (nt := .slice ad2 ln2 cp2) (tx := tx ++ bs) hp tend (by rw [List.map_set]; exact hot9.setAt kn _) ((Hx.turn t9 (fun q => q)).turn hte (fun e => hgtp e.symm)) (O9.turn hte (fun g hg e => by have := f9 g hg; omega)) (fun g hg => by have := f9 g hg; have := T.size; omega)
              have Tend : Turn no w (w9.setCell ⟨gt, kn, none⟩ (.slice ad2 ln2 cp2)) := (T.of_no.trans tend (fun _ _ q => q)).mono (S := fun j => j = p ∨ (Value.slice (some ⟨gt, 0, none⟩) n ct).ownBlock = some j) (fun j hj q => by
                rcases q with q | q
                · omega
                · have := Be.ft j q; omega)
              have c2d : wr.drew.cell? ⟨gt, kn, none⟩ = some (.slice ta tn tc) := c2x
              clear G8 G9 O8 O8' O9 hs1 hs2 hot9 tend hte t8 t9 f8 f9 tX tX0 hBx hbx Hx H7 t7 tlx Rx
              go_wp2_with fail
              refine wp_region_held_drew (S := fun W => Turn (fun k => k = gt) wr W) (by kernel_rfl) (Turn.refl _ wr).drew (fun hHeld => ?_)
              refine' wpAnyH_take (i := 0) (v := .slice (some ⟨gt, 0, none⟩) n ct) rfl (by kernel_rfl) (by kernel_rfl) (by kernel_rfl) (fun _ _ _ h => h) (Or.inl ⟨by kernel_rfl, fun W hW => ?y30⟩) hHeld ?r30
              · go_simp
              refine' wpAnyH_take (i := 1) (v := .int .i64 kn) rfl (by kernel_rfl) (by kernel_rfl) (by kernel_rfl) (fun _ _ _ h => h) (Or.inl ⟨by kernel_rfl, fun W hW => ?y31⟩) hHeld ?r31
              · go_simp
              refine' wpAnyH_take (i := 2) (v := .slice (some ⟨gt, 0, none⟩) n ct) rfl (by kernel_rfl) (by kernel_rfl) (by kernel_rfl) (fun _ _ _ h => h) (Or.inl ⟨by kernel_rfl, fun W hW => ?y32⟩) hHeld ?r32
              · go_simp
              refine' wpAnyH_take (i := 3) (v := .int .i64 kn) rfl (by kernel_rfl) (by kernel_rfl) (by kernel_rfl) (fun _ _ _ h => h) (Or.inl ⟨by kernel_rfl, fun W hW => ?y33⟩) hHeld ?r33
              · go_simp
              refine' wpAnyH_take (i := 4) (v := .pointer (some ⟨gt, kn, none⟩)) rfl (by kernel_rfl) (by kernel_rfl) (by kernel_rfl) (fun _ _ _ h => h) (Or.inl ⟨by kernel_rfl, fun W hW => ?y34⟩) hHeld ?r34
              · go_simp
              refine' wpAnyH_take (i := 7) (v := .pointer (some ⟨g8, 2, none⟩)) rfl (by kernel_rfl) (by kernel_rfl) (by kernel_rfl) (fun _ _ _ h => h) (Or.inl ⟨by kernel_rfl, fun W hW => ?y35⟩) hHeld ?r35
              · go_simp
              refine' wpAnyH_take (i := 8) (v := .slice ba bn bc) rfl (by kernel_rfl) (by kernel_rfl) (by kernel_rfl) (fun _ _ _ h => h) (Or.inl ⟨by kernel_rfl, fun W hW => ?y36⟩) hHeld ?r36
              · have c := hW.keep c8x (fun q => by have q' : g8 = gt := q; omega)
                go_simp
              refine wpAnyH_ready (rs := [5]) (by kernel_rfl) (by simp) ?_
              refine AllReadyH.cons rfl (fun K hK => ?_) AllReadyH.nil
              go_simp
              refine hK.out _ _ hHeld (fun hHeld => ?_)
              clear hK
              refine wpAnyH_ready (rs := [6]) (by kernel_rfl) (by simp) ?_
              refine AllReadyH.cons rfl (fun K hK => ?_) AllReadyH.nil
              rw [if_pos (by rfl)]
              refine wp_append_run _ _ rfl _ _ rfl rfl hap8 ?_
              refine hK.out _ _ hS8 (fun hHeld => ?_)
              clear hK
              refine wpAnyH_ready (rs := [9]) (by kernel_rfl) (by simp) ?_
              refine AllReadyH.cons rfl (fun K hK => ?_) AllReadyH.nil
              rw [if_pos (by rfl)]
              refine wp_append_run _ _ rfl _ _ rfl rfl hap9 ?_
              refine hK.out _ _ hS9 (fun hHeld => ?_)
              clear hK
              refine wpAnyH_ready (rs := [10]) (by kernel_rfl) (by simp) ?_
              refine AllReadyH.cons rfl (fun K hK => ?_) AllReadyH.nil
              go_simp
              refine hK.out _ _ hS9 (fun hHeld => ?_)
              clear hK
              refine wpAnyH_ready (rs := [11]) (by kernel_rfl) (by simp) ?_
              refine AllReadyH.cons rfl (fun K hK => ?_) AllReadyH.nil
              go_simp
              refine hK.out _ _ hSe (fun hHeld => ?_)
              clear hK
              refine wpAnyH_done (by kernel_rfl) ?_ _
              go_wp2_with fail
              go_roundw
              case rel =>
                refine ⟨i + 1, ps, _, by omega, by go_num, Bend, by rw [show ps.length = n from hn.out]; omega, by rw [show ps.length = n from hn.out]; omega, fun t ht => ?_, Tend⟩
                rcases List.mem_or_eq_of_mem_set ht with ht | ht
                · have := htx t ht
                  omega
                · subst ht
                  simp [show tx.length = tn from htn.out, show bs.length = bn from hbn.out]
                  omega
              case measure => simp [intOf]; omega
        · subst hkd
          have hcp := fun W (t : Turn no wr W) => copy_made W p tx (hH.turn t (fun q => q))
          go_wp2_with fail
          refine (hcp _ (hwa _)).mono ?_
          rintro e w5 ⟨pn, rfl, hpn, Hn, t5⟩
          have t5' : Turn no wr w5 := (hwa _).then_no t5
          have hpn' : wr.heap.size ≤ pn := by simp at hpn; omega
          clear hpn t5 hcp
          go_wp2_with (at_builtin; refine wpList_append_src rfl (.tmp 122) (.tmp 124) rfl Tryd.underlying42 info23 rfl _ (ps.map ptr) rfl ((Be.oh.turn_no t5').turn_no ((Turn.refl no w5).alloc _)) _ 1 [ptr pn] rfl (src_one Tryd.underlying42 w5 (ptr pn) rfl) (by simp [show ps.length = n from hn.out]; omega) (by simp [show ps.length = n from hn.out, maxLen]; omega) ?_)
          intro vh2 w6 O6 G6 _
          have a6 := (t5'.alloc _).of_no.trans G6.turn (fun _ _ q => q)
          have hvt6 : Own w6 22 (.slice (some ⟨gt, 0, none⟩) n ct) (ts.map (·.1)) := Be.ot.turn a6 (fun g hg e => Be.oh.apart Be.ot (by decide) g e hg)
          have c26 : w6.cell? ⟨gt, kn, none⟩ = some (.slice ta tn tc) := hvt6.cell kn _ (by simp [htj])
          have hO6 := hO.turn a6 (fun g hg e => hO.apart Be.oh (by decide) g hg e)
          have hB6 : Bs w6 (.slice ta tn tc) tx := Own.bs hO6
          have hsrc := hB6.src (P := Tryd.prog) Tryd.underlying22
          rw [show tx.length = tn from htn.out] at hsrc
          have htn1 : tn ≤ tot (l.take i) := by rw [← htn.out]; exact hlen
          obtain ⟨ad1, ln1, cp1, rfl⟩ := O6.form
          clear a6 hO6
          go_wp2_with (at_builtin; refine wpList_append_src rfl (.const (.slice none 0 0)) (.tmp 130) rfl Tryd.underlying22 Tryd.info5 rfl _ [] rfl (Own.nil _ _) _ tn (tx.map bv) rfl hsrc (by simp; omega) (by simp [maxLen]; omega) ?_)
          intro nt w6a O6a G6a _
          have t6a : Turn no w6 w6a := (Turn.refl no w6).fresh G6a (fun g q => by cases q)
          have f6a : ∀ g, nt.ownBlock = some g → w6.heap.size ≤ g := G6a.fresh (fun g q => by cases q) (Nat.le_refl _)
          have O6a' : Own w6a 5 nt (tx.map bv) := by simpa using O6a
          have s6 := G6.turn.size
          have s5 := t5'.size
          obtain ⟨ad3, ln3, cp3, rfl⟩ := O6a'.form
          clear O6a G6a
          go_wp2_with (at_builtin; refine wpList_append_src rfl (.tmp 126) (.tmp 132) rfl Tryd.underlying43 info22 rfl _ (ts.map (·.1)) rfl ((hvt6.turn_no t6a).turn_no ((Turn.refl no w6a).alloc _)) _ 1 [.slice ad3 ln3 cp3] rfl (src_one Tryd.underlying43 w6a _ rfl) (by simp [← Be.len, show ps.length = n from hn.out]; omega) (by simp [← Be.len, show ps.length = n from hn.out, maxLen]; omega) ?_)
          intro vt2 w7 O7 G7 _
          obtain ⟨B7, t7⟩ := Be.grow (nt := .slice ad3 ln3 cp3) (by have := T.size; omega) hpn' t5' Hn ((Turn.refl no w5).alloc _) O6 G6 (t6a.alloc _) (O6a'.turn_no ((Turn.refl no w6a).alloc _)) (fun g q => by have := f6a g q; have := T.size; simp at s6; omega) O7 G7
          have hgh : ∀ g, (Value.slice (some ⟨gh, 0, none⟩) n ch).ownBlock = some g → w.heap.size ≤ g := Be.fh
          have hgt : ∀ g, (Value.slice (some ⟨gt, 0, none⟩) n ct).ownBlock = some g → w.heap.size ≤ g := Be.ft
          have T7 : Turn no w w7 := (T.of_no.trans t7 (fun _ _ q => q)).mono (S := fun k => (Value.slice (some ⟨gh, 0, none⟩) n ch).ownBlock = some k ∨ (Value.slice (some ⟨gt, 0, none⟩) n ct).ownBlock = some k) (fun j hj q => by
            rcases q with q | q
            · have := hgh j q; omega
            · have := hgt j q; omega)
          obtain ⟨ad2, ln2, cp2, rfl⟩ := O7.form
          clear O6 O7 G6 G7 Hn t7 hgh hgt
          go_wp2_with fail
          go_roundw
          case rel =>
            refine ⟨i + 1, ps ++ [pn], _, by omega, by go_num, B7, by simp, by simp [show ps.length = n from hn.out]; omega, fun t ht => ?_, T7⟩
            rcases List.mem_append.1 ht with ht | ht
            · have := htx t ht
              omega
            · simp at ht
              subst ht
              simp
              try omega
          case measure => simp [intOf]; omega
        · have hk0 : ¬ kd = 0 := hkd.1
          have hk1 : ¬ kd = 1 := hkd.2.1
          have hk2 : ¬ kd = 2 := hkd.2.2
          have hrs := fun W (b : Bs W (.slice ta tn tc) tx) l h2 => rsum_all W (.slice ta tn tc) tx b l h2 (by omega)
          have hne := fun W => neqH W tx
          have hHo := hv_one tx
          have hHs := hv_size tx
          have hHi := hv_info tx
          have hsm := fun W (t : Turn no wr W) => sum_made W p tx (hH.turn t (fun q => q)) (hl1.turn (T.then_no t) (fun q => q)) (by have := (T.then_no t).size; omega) (by omega)
          rw [show hv tx = ((hashOf tx).map bv).toArray from rfl] at hsm hrs hHo hHs hHi
          have hHl : ((hashOf tx).map bv).length = 32 := by simp [hashOf_len]
          generalize (hashOf tx).map bv = HL at *
          have hHi' : (Tryd.prog.info? 35).map (·.size) = some HL.length := by rw [hHl]; exact size35
          go_wp2_with fail
          refine (hsm _ (hwa _)).mono ?_
          rintro e w5 ⟨rfl, t5⟩
          have t5' : Turn no wr w5 := (hwa _).then_no t5
          go_wp2_with (refine wpList_store_row rfl 35 (.tmp 14) (.tmp 53) rfl w5.heap.size HL.toArray rfl rfl 35 _ (heap_alloc_new w5 _) hHi (by rw [hHs]; kernel_rfl) hHo ?_)
          rw [World.setRow_alloc_new]
          have t6 : Turn no wr (w5.alloc (.cells HL.toArray 35)) := t5'.alloc _
          have R6 := Row.new w5 HL.toArray 35
          generalize w5.alloc (.cells HL.toArray 35) = w6 at *
          generalize w5.heap.size = g16 at *
          clear hsm t5 t5'
          refine wp_region_held_drew (S := fun W => Turn no w6 W) (by kernel_rfl) (Turn.refl _ w6).drew (fun hHeld => ?_)
          refine' wpAnyH_take (i := 0) (v := _) rfl (by kernel_rfl) (by kernel_rfl) (by kernel_rfl) (fun _ _ _ h => h) (yieldsIf_load_mid (by kernel_rfl) _ _ rfl _ _ rfl HL _ (fun W h => (R6.turn h (fun q => q)).range) hu rfl hHi') hHeld ?rl28
          refine' wpAnyH_take (i := 1) (v := .slice (some ⟨gt, 0, none⟩) n ct) rfl (by kernel_rfl) (by kernel_rfl) (by kernel_rfl) (fun _ _ _ h => h) (Or.inl ⟨by kernel_rfl, fun W hW => ?y37⟩) hHeld ?r37
          · go_simp
          refine' wpAnyH_take (i := 2) (v := .int .i64 kn) rfl (by kernel_rfl) (by kernel_rfl) (by kernel_rfl) (fun _ _ _ h => h) (Or.inl ⟨by kernel_rfl, fun W hW => ?y38⟩) hHeld ?r38
          · go_simp
          refine' wpAnyH_take (i := 3) (v := .pointer (some ⟨gt, kn, none⟩)) rfl (by kernel_rfl) (by kernel_rfl) (by kernel_rfl) (fun _ _ _ h => h) (Or.inl ⟨by kernel_rfl, fun W hW => ?y39⟩) hHeld ?r39
          · go_simp
          refine' wpAnyH_take (i := 4) (v := .slice ta tn tc) rfl (by kernel_rfl) (by kernel_rfl) (by kernel_rfl) (fun _ _ _ h => h) (Or.inl ⟨by kernel_rfl, fun W hW => ?y40⟩) hHeld ?r40
          · have c := (t6.then_no hW).keep c2 (fun q => q)
            go_simp
          refine wpAnyH_ready (rs := [5]) (by kernel_rfl) (by simp) ?_
          refine AllReadyH.cons rfl (fun K hK => ?_) AllReadyH.nil
          go_simp
          refine (hrs _ (hB.turn_no t6.drew) (hl0.turn (T.then_no t6).drew (fun q => q)) (by have := (T.then_no t6).drew.size; omega)).mono ?_
          rintro e w7 ⟨rfl, t7⟩
          have t7' : Turn no w6 w7 := (Turn.refl no w6).drew.then_no t7
          go_wp2_with fail
          refine hK.out _ _ t7' (fun hHeld => ?_)
          clear hK
          refine wpAnyH_ready (rs := [6]) (by kernel_rfl) (by simp) ?_
          refine AllReadyH.cons rfl (fun K hK => ?_) AllReadyH.nil
          go_simp
          refine hK.out _ _ hHeld (fun hHeld => ?_)
          clear hK
          refine wpAnyH_done (by kernel_rfl) ?_ _
          have T7 := t6.then_no t7'
          go_wp2_with fail
          go_roundw
          case rel => exact ⟨i + 1, ps, ts, by omega, by go_num, Be.turn_no T7, by rw [hn.out]; omega, by rw [hn.out]; omega, fun t ht => by have := htx t ht; omega, T.then_no T7⟩
          case measure => simp [intOf]; omega
    · have hlt' : ¬ (i : Int) < (l.length : Int) := by omega
      obtain ⟨gh, ch, hvh, hch, hchm, hcell⟩ := Be.oh.at (by simpa using hpos)
      obtain ⟨gt, ct, hvt, hct, hctm, tcell⟩ := Be.ot.at (by simpa [← Be.len] using hpos)
      rw [List.length_map] at hvh hvt hch hct
      rw [← Be.len] at hvt hct
      subst hvh
      subst hvt
      clear hcell tcell
      go_wp2_with fail
      go_loopw [15] (fun c wr => ∃ j : Nat, j ≤ ps.length ∧ c = .int .i64 j ∧ Beside w.heap.size wr (.slice (some ⟨gh, 0, none⟩) ps.length ch) (.slice (some ⟨gt, 0, none⟩) ps.length ct) ps ts ∧ Turn no w wr) (fun c _ => ps.length - (intOf c).toNat)
      case atStart => exact ⟨0, Nat.zero_le _, rfl, Be, T⟩
      case round =>
        clear Be T
        obtain ⟨j, hj, rfl, Be, T⟩ := hrel
        by_cases hjt : j < ps.length
        · have hjt' : (j : Int) < (ps.length : Int) := by omega
          obtain ⟨p, hp⟩ : ∃ p, ps[j]? = some p := ⟨ps[j], List.getElem?_eq_getElem hjt⟩
          obtain ⟨⟨tv, tx⟩, htj⟩ : ∃ t, ts[j]? = some t := ⟨ts[j]'(by rw [← Be.len]; exact hjt), List.getElem?_eq_getElem _⟩
          have hH := Be.hh j p _ hp htj
          have hB : Bs wr tv tx := Own.bs (Be.tt _ (List.mem_of_getElem? htj))
          have hlen : tx.length ≤ 1099511627776 := by have := htx _ (List.mem_of_getElem? htj); have := tot_le l i; simp at *; omega
          have c1 : wr.cell? ⟨gh, j, none⟩ = some (.pointer (some ⟨p, 0, none⟩)) := Be.oh.cell j (ptr p) (by simp [hp])
          have c2 : wr.cell? ⟨gt, j, none⟩ = some tv := Be.ot.cell j tv (by simp [htj])
          obtain ⟨ta, tc, htv⟩ := hB.slice
          obtain ⟨tn, htn⟩ : ∃ tn, tn = tx.length := ⟨_, rfl⟩
          rw [← htn] at htv
          clear htn
          subst htv
          have hsm := sum_made wr p tx hH (hl1.turn T (fun q => q)) (by have := T.size; omega) (by omega)
          have hrs := fun W (b : Bs W (.slice ta tn tc) tx) l h2 => rsum_all W (.slice ta tn tc) tx b l h2 (by omega)
          have hne := fun W => neqH W tx
          have hHo := hv_one tx
          have hHs := hv_size tx
          have hHi := hv_info tx
          rw [show hv tx = ((hashOf tx).map bv).toArray from rfl] at hsm hrs hHo hHs hHi
          have hHl : ((hashOf tx).map bv).length = 32 := by simp [hashOf_len]
          generalize (hashOf tx).map bv = HL at *
          have hHi' : (Tryd.prog.info? 35).map (·.size) = some HL.length := by rw [hHl]; exact size35
          go_wp2_with fail
          refine hsm.mono ?_
          rintro e w5 ⟨rfl, t5⟩
          go_wp2_with (refine wpList_store_row rfl 35 (.tmp 16) (.tmp 144) rfl w5.heap.size HL.toArray rfl rfl 35 _ (heap_alloc_new w5 _) hHi (by rw [hHs]; kernel_rfl) hHo ?_)
          rw [World.setRow_alloc_new]
          have t6 : Turn no wr (w5.alloc (.cells HL.toArray 35)) := t5.alloc _
          have R6 := Row.new w5 HL.toArray 35
          generalize w5.alloc (.cells HL.toArray 35) = w6 at *
          generalize w5.heap.size = g16 at *
          clear hsm t5
          refine wp_region_held_drew (S := fun W => Turn no w6 W) (by kernel_rfl) (Turn.refl _ w6).drew (fun hHeld => ?_)
          refine' wpAnyH_take (i := 0) (v := _) rfl (by kernel_rfl) (by kernel_rfl) (by kernel_rfl) (fun _ _ _ h => h) (yieldsIf_load_mid (by kernel_rfl) _ _ rfl _ _ rfl HL _ (fun W h => (R6.turn h (fun q => q)).range) hu rfl hHi') hHeld ?rl6
          refine' wpAnyH_take (i := 1) (v := .slice (some ⟨gt, 0, none⟩) ps.length ct) rfl (by kernel_rfl) (by kernel_rfl) (by kernel_rfl) (fun _ _ _ h => h) (Or.inl ⟨by kernel_rfl, fun W hW => ?y41⟩) hHeld ?r41
          · go_simp
          refine' wpAnyH_take (i := 2) (v := .int .i64 j) rfl (by kernel_rfl) (by kernel_rfl) (by kernel_rfl) (fun _ _ _ h => h) (Or.inl ⟨by kernel_rfl, fun W hW => ?y42⟩) hHeld ?r42
          · go_simp
          refine' wpAnyH_take (i := 3) (v := .pointer (some ⟨gt, j, none⟩)) rfl (by kernel_rfl) (by kernel_rfl) (by kernel_rfl) (fun _ _ _ h => h) (Or.inl ⟨by kernel_rfl, fun W hW => ?y43⟩) hHeld ?r43
          · go_simp
          refine' wpAnyH_take (i := 4) (v := .slice ta tn tc) rfl (by kernel_rfl) (by kernel_rfl) (by kernel_rfl) (fun _ _ _ h => h) (Or.inl ⟨by kernel_rfl, fun W hW => ?y44⟩) hHeld ?r44
          · have c := (t6.then_no hW).keep c2 (fun q => q)
            go_simp
          refine wpAnyH_ready (rs := [5]) (by kernel_rfl) (by simp) ?_
          refine AllReadyH.cons rfl (fun K hK => ?_) AllReadyH.nil
          go_simp
          refine (hrs _ (hB.turn_no t6.drew) (hl0.turn (T.then_no t6).drew (fun q => q)) (by have := (T.then_no t6).drew.size; omega)).mono ?_
          rintro e w7 ⟨rfl, t7⟩
          have t7' : Turn no w6 w7 := (Turn.refl no w6).drew.then_no t7
          go_wp2_with fail
          refine hK.out _ _ t7' (fun hHeld => ?_)
          clear hK
          refine wpAnyH_ready (rs := [6]) (by kernel_rfl) (by simp) ?_
          refine AllReadyH.cons rfl (fun K hK => ?_) AllReadyH.nil
          go_simp
          refine hK.out _ _ hHeld (fun hHeld => ?_)
          clear hK
          refine wpAnyH_done (by kernel_rfl) ?_ _
          have T7 := t6.then_no t7'
          go_wp2_with fail
          go_roundw
          case rel => exact ⟨j + 1, by omega, by go_num, Be.turn_no T7, T.then_no T7⟩
          case measure => simp [intOf]; omega
        · have hjt' : ¬ (j : Int) < (ps.length : Int) := by omega
          go_wp2_with fail
          go_ret
          exact ⟨rfl, T⟩
end Go.Proofs.YtnibmkenbidnfaaDoor
