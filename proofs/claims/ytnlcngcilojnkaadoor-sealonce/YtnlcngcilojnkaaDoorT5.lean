/- sign of a sight. -/
import Derived.Test.YtnlcngcilojnkaaDoorT6
namespace Go.Proofs.YtnlcngcilojnkaaDoor
open Go.RowKit Go.Maps Go.MuLone
set_option linter.unusedVariables false

theorem neq33T (w : World) (X Y : List UInt8) (hx : X.length = 16) (hy : Y.length = 16) : (binOp .neq 33 (.agg (X.map bv).toArray) (.agg (Y.map bv).toArray)).run Tryd.prog w = .ok (.bool (!(X == Y))) w := by
  rw [run_neq_struct, eqIn33 w X Y hx hy]
  rfl
theorem neq33S (w : World) (X : List UInt8) (hx : X.length = 16) : (binOp .neq 33 (.agg (X.map bv).toArray) (.agg (X.map bv).toArray)).run Tryd.prog w = .ok (.bool false) w := by
  have := neq33T w X X hx hx
  rwa [beq_self_eq_true] at this
theorem list16 (L : List Value) (h : L.length = 16) : ∃ y0 y1 y2 y3 y4 y5 y6 y7 y8 y9 y10 y11 y12 y13 y14 y15, L = [y0, y1, y2, y3, y4, y5, y6, y7, y8, y9, y10, y11, y12, y13, y14, y15] := by
  obtain _ | ⟨y0, L⟩ := L
  · simp at h
  obtain _ | ⟨y1, L⟩ := L
  · simp at h
  obtain _ | ⟨y2, L⟩ := L
  · simp at h
  obtain _ | ⟨y3, L⟩ := L
  · simp at h
  obtain _ | ⟨y4, L⟩ := L
  · simp at h
  obtain _ | ⟨y5, L⟩ := L
  · simp at h
  obtain _ | ⟨y6, L⟩ := L
  · simp at h
  obtain _ | ⟨y7, L⟩ := L
  · simp at h
  obtain _ | ⟨y8, L⟩ := L
  · simp at h
  obtain _ | ⟨y9, L⟩ := L
  · simp at h
  obtain _ | ⟨y10, L⟩ := L
  · simp at h
  obtain _ | ⟨y11, L⟩ := L
  · simp at h
  obtain _ | ⟨y12, L⟩ := L
  · simp at h
  obtain _ | ⟨y13, L⟩ := L
  · simp at h
  obtain _ | ⟨y14, L⟩ := L
  · simp at h
  obtain _ | ⟨y15, L⟩ := L
  · simp at h
  obtain _ | ⟨y, L⟩ := L
  · exact ⟨_, _, _, _, _, _, _, _, _, _, _, _, _, _, _, _, rfl⟩
  · simp at h
theorem info79 : (Tryd.prog.info? 79).map (fun i => (i.zero, i.size, i.bytes)) = some (some (.agg #[.int .i64 0, .int .u64 0, .string ⟨#[]⟩, .int .u8 0, .int .u8 0, .int .u8 0, .int .u8 0, .int .u8 0, .int .u8 0, .int .u8 0, .int .u8 0, .int .u8 0, .int .u8 0, .int .u8 0, .int .u8 0, .int .u8 0, .int .u8 0, .int .u8 0, .int .u8 0]), 19, 48) := by kernel_rfl
section
variable {base sw : Nat} {w : World} {d : Nat → Sd} {vb : Value} {B : List Wr}
theorem book_at {w : World} {vb : Value} {B : List Wr} (book : OwnN w 79 19 vb B.length (B.flatMap wrC)) : BkAt w vb B := by
  obtain ⟨a, cap, rfl, hn, h1, h2, h3⟩ := book.form
  refine ⟨a, cap, rfl, by simpa [maxLen] using h1, fun j x hx => ?_⟩
  rcases book.2 with ⟨e, q⟩ | ⟨g, cap', cur, e, _⟩
  · have := (List.getElem?_eq_some_iff.1 hx).1
    omega
  · cases e
    have hc : ∀ i u, (B.flatMap wrC)[i]? = some u → w.cell? ⟨g, i, none⟩ = some u := fun i u hu => by
      have := World.ownsRow.cells book (g := g) rfl i u hu
      simpa [Addr.add_lit] using this
    have c0 := hc (j * 19 + 0) _ ((flat_get wrC 19 wrC_len B j 0 x hx (by omega)).trans rfl)
    have c1 := hc (j * 19 + 1) _ ((flat_get wrC 19 wrC_len B j 1 x hx (by omega)).trans rfl)
    have c2 := hc (j * 19 + 2) _ ((flat_get wrC 19 wrC_len B j 2 x hx (by omega)).trans rfl)
    exact ⟨g, rfl, by simpa using c0, c1, c2⟩
theorem book_seal {w : World} {vb : Value} {B : List Wr} (book : OwnN w 79 19 vb B.length (B.flatMap wrC)) {j : Nat} {x : Wr} (hx : B[j]? = some x) : ∃ g cap, vb = .slice (some ⟨g, 0, none⟩) B.length cap ∧ w.rangeAt g (j * 19 + 3) ((sealB x.2.1 x.2.2).map bv) := by
  rcases book.2 with ⟨e, q⟩ | ⟨g, cap', cur, e, _⟩
  · have := (List.getElem?_eq_some_iff.1 hx).1
    omega
  · have hc : ∀ i u, (B.flatMap wrC)[i]? = some u → w.cell? ⟨g, i, none⟩ = some u := fun i u hu => by
      have := World.ownsRow.cells book (g := g) (by rw [e]; rfl) i u hu
      simpa [Addr.add_lit] using this
    refine ⟨g, cap', e, fun i u hu => ?_⟩
    have hi : i < 16 := by have := (List.getElem?_eq_some_iff.1 hu).1; simpa [sealB_len] using this
    have := hc (j * 19 + (i + 3)) u ((flat_get wrC 19 wrC_len B j (i + 3) x hx (by omega)).trans (by simpa [wrC] using hu))
    rw [← this]
    congr 2
    omega
theorem Sight.signed (h : Sight base w sw d vb B) {k : Nat} (hk : k < 2) {w1 : World} {V' : UInt64 → Value} {R' : List Rec} (t : Turn (Fp (d k).p (d k).br (d k).bt (d k).V) w w1) (bk1 : Bk w1 (d k).p (d k).br (d k).bt V' (d k).E R') (hf : ∀ b g, (V' b).ownBlock = some g → ((d k).V b).ownBlock = some g ∨ w.heap.size < g) :
    Row w1 sw (sightC d vb) 74 ∧ OwnN w1 79 19 vb B.length (B.flatMap wrC) ∧ Side w1 { d k with V := V' } R' ∧ (∀ g, SFp { d k with V := V' } g → SFp (d k) g ∨ w.heap.size ≤ g) := by
  have hs := h.side k hk
  refine ⟨h.row.turn t (fun q => h.sw_away hk (.inl q)), h.book.turn t (fun g hg q => h.vb_away hk hg (.inl q)), ⟨bk1, hs.os.turn t (fun g hg q => ?_), hs.oa.turn t (fun g hg q => ?_), hs.len, fun j q a h1 h2 => Row.turn (hs.sg j q a h1 h2) t (fun e => hs.bk.away (hs.sg j q a h1 h2) (by decide) (by decide) e)⟩, fun g hg => ?_⟩
  · obtain ⟨c, ho⟩ := hs.os.obj hg
    exact hs.bk.away ho (by decide) (by decide) q
  · obtain ⟨c, ho⟩ := hs.oa.obj hg
    exact hs.bk.away ho (by decide) (by decide) q
  · rcases hg with (q | q | q | ⟨b, q⟩) | q
    · exact .inl (.inl (.inl q))
    · exact .inl (.inl (.inr (.inl q)))
    · exact .inl (.inl (.inr (.inr (.inl q))))
    · rcases hf b g q with q | q
      · exact .inl (.inl (.inr (.inr (.inr ⟨b, q⟩))))
      · exact .inr (by omega)
    · exact .inl (.inr q)

set_option maxRecDepth 100000 in
set_option maxHeartbeats 1000000 in
theorem sign35_not (h : Sight base w sw d vb B) {k : Nat} (hk : k < 2) (x : Int) (va : Value) (bs : List UInt8) (hb : Bs w va bs) (hn : (d k).E = [] ∨ 1048576 < bs.length) : Calls Tryd.prog 35 #[.pointer (some ⟨sw, 0, none⟩), .int .i64 k, .int .i64 x, va] w fun e w' => e = .returned (.tuple #[]) ∧ w' = w := by
  have hk' : (k : Int) < 2 := by omega
  have c2 := h.c2 hk
  obtain ⟨va', vc, hva⟩ := hb.slice
  subst hva
  have hs := h.side k hk
  by_cases hE : (d k).E = []
  · have hss : (d k).ss = [] := List.eq_nil_of_length_eq_zero (by rw [hs.len, hE]; rfl)
    obtain ⟨a0, c0, e0⟩ : ∃ a c, (d k).vs = .slice a 0 c := by
      rcases hs.os.shape with ⟨e, _⟩ | ⟨g, cap, cur, e, _⟩
      · exact ⟨_, _, e⟩
      · rw [hss] at e
        exact ⟨_, _, e⟩
    rw [e0] at c2
    go_enter Tryd.func35, Tryd.ntmps35
    go_wp2_with fail
    (try simp only [Exit.inBlock, Exit.then])
    refine bodyPost_ret (results_none rfl _ _ _) rfl ?_
    exact ⟨rfl, rfl⟩
  · have hlong : 1048576 < bs.length := hn.resolve_left hE
    have hl' : (1048576 : Int) < (bs.length : Int) := by omega
    obtain ⟨n, hn1, a0, c0, e0⟩ : ∃ n, 1 ≤ n ∧ ∃ a c, (d k).vs = .slice a n c := by
      have hpos : 0 < ((d k).ss.map ptr).length := by simp [hs.len]; exact List.length_pos_iff.2 hE
      obtain ⟨g, cap, e, _⟩ := hs.os.at hpos
      exact ⟨_, hpos, _, _, e⟩
    rw [e0] at c2
    have hn0 : ¬ (n : Int) = 0 := by omega
    have hn01 : ((n : Int) == 0) = false := by simpa using (show ¬ n = 0 by omega)
    go_enter Tryd.func35, Tryd.ntmps35
    go_wp2_with fail
    (try simp only [Exit.inBlock, Exit.then])
    refine bodyPost_ret (results_none rfl _ _ _) rfl ?_
    exact ⟨rfl, rfl⟩

set_option maxRecDepth 100000 in
set_option maxHeartbeats 8000000 in
theorem sign35_main (h : Sight base w sw d vb B) {k : Nat} (hk : k < 2) (x : Int) (va : Value) (bs : List UInt8) (hb : Bs w va bs) (hva0 : bs ≠ [] → ∀ g, va.ownBlock = some g → g < base) (hl : Laid1 w) (h2 : 2 ≤ base) (hE : (d k).E ≠ []) (hlen : bs.length ≤ 1048576) (hm : (d k).E.length + B.length ≤ 4398046511104) (hm2 : B.length ≤ 1599289640401) (B' : List Wr) (hB0 : B' = if (k, sgA (d k).E x, bs) ∈ B then B else B ++ [(k, sgA (d k).E x, bs)]) :
    Calls Tryd.prog 35 #[.pointer (some ⟨sw, 0, none⟩), .int .i64 k, .int .i64 x, va] w fun e w' => e = .returned (.tuple #[]) ∧ ∃ d' vb', Sight base w' sw d' vb' B' ∧ (∀ j, (d' j).E = (d j).E) ∧ Turn (fun g => base ≤ g) w w' := by
  have hk' : (k : Int) < 2 := by omega
  have hs := h.side k hk
  have hEp : 0 < (d k).E.length := List.length_pos_iff.2 hE
  have hal := around_lt x (d k).E.length hEp
  obtain ⟨a, ha⟩ : ∃ a, (d k).E[around x (d k).E.length]? = some a := ⟨_, List.getElem?_eq_getElem hal⟩
  have hsa : sgA (d k).E x = a := by rw [sgA, List.getD_eq_getElem?_getD, ha]; rfl
  rw [hsa] at hB0
  have hB' : Shut (B' = if (k, a, bs) ∈ B then B else B ++ [(k, a, bs)]) := hB0
  clear hB0 hsa
  obtain ⟨q, hq⟩ : ∃ q, (d k).ss[around x (d k).E.length]? = some q := ⟨_, List.getElem?_eq_getElem (by rw [hs.len]; exact hal)⟩
  have hsg := hs.sg _ q a hq ha
  have har := around22 w x (d k).E.length hEp (by omega)
  obtain ⟨gs, cs, hvs, hcs, _, cells⟩ := hs.os.at (by simp [hs.len]; exact hEp)
  have cq : w.cell? ⟨gs, around x (d k).E.length, none⟩ = some (.pointer (some ⟨q, 0, none⟩)) := cells _ (ptr q) (by simp [hq])
  rw [List.length_map, hs.len] at hvs hcs
  obtain ⟨ga, ca, hva2, hca, _, acells⟩ := hs.oa.at (by simpa using hEp)
  rw [List.length_map] at hva2 hca
  have c2 := h.c2 hk
  rw [hvs] at c2
  have hrl := recs_len B k
  have hsig := hs.bk.sign q a hsg (List.mem_of_getElem? ha) va bs hb (fun hne g hg q => by have := hva0 hne g hg; have := h.fresh k g hk (.inl q); omega) hl (by have := h.hb; omega) (fun q => by have := h.fresh k 1 hk (.inl q); omega) hlen (by simp only [maxLen]; omega) (by omega)
  obtain ⟨n, hn⟩ : ∃ n, Shut ((d k).E.length = n) := ⟨_, rfl⟩
  obtain ⟨i, hi⟩ : ∃ i, Shut (around x (d k).E.length = i) := ⟨_, rfl⟩
  rw [show around x (d k).E.length = i from hi.out] at ha hq har cq hal
  rw [show (d k).E.length = n from hn.out] at har c2 hal hEp hvs hva2 hcs hca
  have hn0 : ¬ (n : Int) = 0 := by omega
  have hn01 : ((n : Int) == 0) = false := by simpa using (show ¬ n = 0 by omega)
  have hil : (i : Int) < (n : Int) := by omega
  have hlen' : ¬ (1048576 : Int) < (bs.length : Int) := by omega
  have hbh := h.hb
  have hvbl : ∀ g, vb.ownBlock = some g → g < w.heap.size := fun g hg => h.book.lt hg
  have hswl : sw < w.heap.size := h.row.lt
  have hsign := fun {w1 : World} {V' : UInt64 → Value} {R' : List Rec} t bk hf => h.signed (w1 := w1) (V' := V') (R' := R') hk t bk hf
  have htext := fun W (b : Bs W va bs) => bytes_text b
  obtain ⟨va', vc, hva⟩ := hb.slice
  subst hva
  have hsl : ∀ j, B[j]? = some (k, a, bs) → ∀ W, OwnN W 79 19 vb B.length (B.flatMap wrC) → ∃ g cap, vb = .slice (some ⟨g, 0, none⟩) B.length cap ∧ W.rangeAt g (j * 19 + 3) ((sealB a bs).map bv) := fun j hj W H => by
    obtain ⟨g, cap, e, hr⟩ := book_seal H hj
    exact ⟨g, cap, e, hr⟩
  have hwr : Shut (wrC (k, a, bs) = .int .i64 k :: .int .u64 a.toNat :: .string ⟨bs.toArray⟩ :: (sealB a bs).map bv) := rfl
  have hne := fun W => neq33S W (sealB a bs) (sealB_len a bs)
  have hSl : Shut (((sealB a bs).map bv).length = 16) := (by simp [sealB_len] : ((sealB a bs).map bv).length = 16)
  have hSo := sealV_one a bs
  rw [show sealV a bs = ((sealB a bs).map bv).toArray from rfl] at hsig hSo
  have hSi : (Tryd.prog.info? 33).map (·.size) = some ((sealB a bs).map bv).toArray.size := by rw [List.size_toArray, hSl.out]; exact size33
  have hSi2 : (Tryd.prog.info? 33).map (·.size) = some ((sealB a bs).map bv).length := by rw [hSl.out]; exact size33
  have hSone : ∀ u ∈ (sealB a bs).map bv, u.oneCell' = true := bv_one _
  have hu := Tryd.underlying33
  generalize sealB a bs = SB at *
  generalize SB.map bv = SL at *
  have hmB : (B.length + 1) * 48 ≤ 140737488355328 := by omega
  have hmB2 : B.length + 1 ≤ maxLen := by simp only [maxLen]; omega
  have hwho : ∀ x ∈ B ++ [(k, a, bs)], x.1 < 2 ∧ x.2.2.length ≤ 1048576 := fun x hx => by
    rcases List.mem_append.1 hx with hx | hx
    · exact h.who x hx
    · simp at hx; subst hx; exact ⟨hk, hlen⟩
  clear cells acells hlen hm hm2
  go_enter Tryd.func35, Tryd.ntmps35
  go_wp2_with fail
  refine har.mono ?_
  rintro e w' ⟨rfl, e1⟩
  have e1 := e1.symm
  subst e1
  go_wp2_with fail
  refine hsig.mono ?_
  rintro e w1 ⟨rfl, V', bk1, hf1, t1⟩
  have hsz1 := t1.size
  obtain ⟨row1, book1, side1, fp1⟩ := hsign t1 bk1 hf1
  clear hsig hsign har c2 cq
  go_wp2_with (refine wpList_store_row rfl 33 (.tmp 9) (.tmp 46) rfl w1.heap.size SL.toArray rfl rfl 33 _ (Row.new w1 _ 33) hSi (by simp [show SL.length = 16 from hSl.out]) hSo ?_)
  have RZ : Row (World.setRow (w1.alloc (.cells #[.int .u8 0, .int .u8 0, .int .u8 0, .int .u8 0, .int .u8 0, .int .u8 0, .int .u8 0, .int .u8 0, .int .u8 0, .int .u8 0, .int .u8 0, .int .u8 0, .int .u8 0, .int .u8 0, .int .u8 0, .int .u8 0] 33)) w1.heap.size SL.toArray) w1.heap.size SL.toArray 33 := setRow_heap _ _ _ _ _ _ (Row.new w1 _ 33)
  have T12 : Turn no w1 (World.setRow (w1.alloc (.cells #[.int .u8 0, .int .u8 0, .int .u8 0, .int .u8 0, .int .u8 0, .int .u8 0, .int .u8 0, .int .u8 0, .int .u8 0, .int .u8 0, .int .u8 0, .int .u8 0, .int .u8 0, .int .u8 0, .int .u8 0, .int .u8 0] 33)) w1.heap.size SL.toArray) := ((Turn.refl no w1).alloc _).setRow _ _ (fun q => absurd q (Nat.lt_irrefl _))
  generalize World.setRow (w1.alloc (.cells #[.int .u8 0, .int .u8 0, .int .u8 0, .int .u8 0, .int .u8 0, .int .u8 0, .int .u8 0, .int .u8 0, .int .u8 0, .int .u8 0, .int .u8 0, .int .u8 0, .int .u8 0, .int .u8 0, .int .u8 0, .int .u8 0] 33)) w1.heap.size SL.toArray = w2 at *
  have hgz : w1.heap.size < w2.heap.size := RZ.lt
  generalize w1.heap.size = gz at *
  have row2 := row1.turn T12 (fun q => q)
  have book2 := book1.turn_no T12
  have side2 := side1.turn_no T12
  have t2 := t1.then_no T12
  have hsw : ∀ W, Turn no w2 W → W.cell? ⟨sw, 4 + k, none⟩ = some (.slice (some ⟨ga, 0, none⟩) n ca) := fun W t => by rw [← hva2]; exact row_at4 (row2.turn t (fun q => q)) hk
  have hca2 : ∀ W, Turn no w2 W → W.cell? ⟨ga, i, none⟩ = some (.int .u64 a.toNat) := fun W t => by
    have o : Own W 29 (.slice (some ⟨ga, 0, none⟩) n ca) ((d k).E.map u64V) := by rw [← hva2]; exact side2.oa.turn_no t
    exact o.cell i (u64V a) (by simp [ha])
  have hbW : ∀ W, Turn no w2 W → Bs W (.slice va' bs.length vc) bs := fun W t => hb.late (t2.then_no t) (fun hne g hg q => by have := hva0 hne g hg; have := h.fresh k g hk (.inl q); omega)
  have hfind : ∀ W, Turn no w2 W → _ := fun W t => find44 W sw k vb B a bs ((row2.turn t (fun q => q)).cell 6 _ rfl) (book_at (book2.turn_no t))
  go_wp2_with fail
  refine wp_region_held_drew (S := fun W => Turn no w2 W) (by kernel_rfl) (Turn.refl no w2).drew (fun hHeld => ?_)
  refine' wpAnyH_take (i := 0) (v := .pointer (some ⟨sw, 0, none⟩)) rfl (by kernel_rfl) (by kernel_rfl) (by kernel_rfl) (fun _ _ _ h => h) (Or.inl ⟨by kernel_rfl, fun W hW => ?y1⟩) hHeld ?r1
  · go_simp
  refine' wpAnyH_take (i := 1) (v := .int .i64 k) rfl (by kernel_rfl) (by kernel_rfl) (by kernel_rfl) (fun _ _ _ h => h) (Or.inl ⟨by kernel_rfl, fun W hW => ?y2⟩) hHeld ?r2
  · go_simp
  refine' wpAnyH_take (i := 2) (v := .pointer (some ⟨sw, 0, none⟩)) rfl (by kernel_rfl) (by kernel_rfl) (by kernel_rfl) (fun _ _ _ h => h) (Or.inl ⟨by kernel_rfl, fun W hW => ?y3⟩) hHeld ?r3
  · go_simp
  refine' wpAnyH_take (i := 3) (v := .int .i64 k) rfl (by kernel_rfl) (by kernel_rfl) (by kernel_rfl) (fun _ _ _ h => h) (Or.inl ⟨by kernel_rfl, fun W hW => ?y4⟩) hHeld ?r4
  · go_simp
  refine' wpAnyH_take (i := 4) (v := .pointer (some ⟨sw, 0, none⟩)) rfl (by kernel_rfl) (by kernel_rfl) (by kernel_rfl) (fun _ _ _ h => h) (Or.inl ⟨by kernel_rfl, fun W hW => ?y5⟩) hHeld ?r5
  · go_simp
  refine' wpAnyH_take (i := 5) (v := .pointer (some ⟨sw, 4, none⟩)) rfl (by kernel_rfl) (by kernel_rfl) (by kernel_rfl) (fun _ _ _ h => h) (Or.inl ⟨by kernel_rfl, fun W hW => ?y6⟩) hHeld ?r6
  · go_simp
  refine' wpAnyH_take (i := 6) (v := .pointer (some ⟨sw, 4 + k, none⟩)) rfl (by kernel_rfl) (by kernel_rfl) (by kernel_rfl) (fun _ _ _ h => h) (Or.inl ⟨by kernel_rfl, fun W hW => ?y7⟩) hHeld ?r7
  · go_simp
  refine' wpAnyH_take (i := 7) (v := .slice (some ⟨ga, 0, none⟩) n ca) rfl (by kernel_rfl) (by kernel_rfl) (by kernel_rfl) (fun _ _ _ h => h) (Or.inl ⟨by kernel_rfl, fun W hW => ?y8⟩) hHeld ?r8
  · have c := hsw W hW
    go_simp
  refine' wpAnyH_take (i := 8) (v := .int .i64 i) rfl (by kernel_rfl) (by kernel_rfl) (by kernel_rfl) (fun _ _ _ h => h) (Or.inl ⟨by kernel_rfl, fun W hW => ?y9⟩) hHeld ?r9
  · go_simp
  refine' wpAnyH_take (i := 9) (v := .pointer (some ⟨ga, i, none⟩)) rfl (by kernel_rfl) (by kernel_rfl) (by kernel_rfl) (fun _ _ _ h => h) (Or.inl ⟨by kernel_rfl, fun W hW => ?y10⟩) hHeld ?r10
  · go_simp
  refine' wpAnyH_take (i := 10) (v := .int .u64 a.toNat) rfl (by kernel_rfl) (by kernel_rfl) (by kernel_rfl) (fun _ _ _ h => h) (Or.inl ⟨by kernel_rfl, fun W hW => ?y11⟩) hHeld ?r11
  · have c := hca2 W hW
    go_simp
  refine' wpAnyH_take (i := 11) (v := .slice va' bs.length vc) rfl (by kernel_rfl) (by kernel_rfl) (by kernel_rfl) (fun _ _ _ h => h) (Or.inl ⟨by kernel_rfl, fun W hW => ?y12⟩) hHeld ?r12
  · go_simp
  refine' wpAnyH_take (i := 12) (v := .string ⟨bs.toArray⟩) rfl (by kernel_rfl) (by kernel_rfl) (by kernel_rfl) (fun _ _ _ h => h) (Or.inl ⟨by kernel_rfl, fun W hW => ?y13⟩) hHeld ?r13
  · have c := htext W (hbW W hW)
    go_simp
  refine wpAnyH_ready (rs := [13]) (by kernel_rfl) (by simp) ?_
  refine AllReadyH.cons rfl (fun K hK => ?_) AllReadyH.nil
  go_simp
  refine (hfind _ hHeld).mono ?_
  rintro e w3 ⟨hj, e3⟩
  have e3 := e3.symm
  subst e3
  rcases hj with ⟨j, rfl, hj⟩ | ⟨rfl, hno⟩
  · go_wp2_with fail
    refine hK.out _ _ hHeld (fun hHeld => ?_)
    clear hK
    refine wpAnyH_ready (rs := [14]) (by kernel_rfl) (by simp) ?_
    refine AllReadyH.cons rfl (fun K hK => ?_) AllReadyH.nil
    go_simp
    refine hK.out _ _ hHeld (fun hHeld => ?_)
    clear hK
    refine wpAnyH_done (by kernel_rfl) ?_ _
    have hin : (k, a, bs) ∈ B := List.mem_of_getElem? hj
    have hjl : j < B.length := (List.getElem?_eq_some_iff.1 hj).1
    obtain ⟨g, cap, hvb, _⟩ := hsl j hj w2 book2
    obtain ⟨N, hN⟩ : ∃ N, Shut (B.length = N) := ⟨_, rfl⟩
    have hjl' : (j : Int) < (N : Int) := by rw [← hN.out]; omega
    have hj0 : ¬ (j : Int) < 0 := by omega
    have hj1 : (0 : Int) ≤ (j : Int) := by omega
    have Hsl : ∀ W, Turn no w2 W → W.rangeAt g (j * 19 + 3) SL := fun W t => by
      obtain ⟨g', cap', e', hr⟩ := hsl j hj W (book2.turn_no t)
      rw [hvb] at e'
      cases e'
      exact hr
    have Hvb : ∀ W, Turn no w2 W → W.cell? ⟨sw, 6, none⟩ = some (.slice (some ⟨g, 0, none⟩) N cap) := fun W t => by rw [← show B.length = N from hN.out, ← hvb]; exact (row2.turn t (fun q => q)).cell 6 _ rfl
    have Hz : ∀ W, Turn no w2 W → W.rangeAt gz 0 SL := fun W t => (RZ.turn t (fun q => q)).range
    go_wp2_with fail
    refine wp_region_held_drew (S := fun W => Turn no w2 W) (by kernel_rfl) (Turn.refl no w2).drew.drew (fun hHeld => ?_)
    refine' wpAnyH_take (i := 0) (v := .int .i64 0) rfl (by kernel_rfl) (by kernel_rfl) (by kernel_rfl) (fun _ _ _ h => h) (Or.inl ⟨by kernel_rfl, fun W hW => ?y14⟩) hHeld ?r14
    · go_simp
    refine wpAnyH_ready (rs := [1]) (by kernel_rfl) (by simp) ?_
    refine AllReadyH.cons rfl (fun K hK => ?_) AllReadyH.nil
    go_simp
    refine (numT _ 0).mono ?_
    rintro e w3 ⟨rfl, e3⟩
    have e3 := e3.symm
    subst e3
    go_wp2_with fail
    refine hK.out _ _ hHeld (fun hHeld => ?_)
    clear hK
    refine' wpAnyH_take (i := 2) (v := .bool false) rfl (by kernel_rfl) (by kernel_rfl) (by kernel_rfl) (fun _ _ _ h => h) (Or.inl ⟨by kernel_rfl, fun W hW => ?y15⟩) hHeld ?r15
    · go_simp
    refine' wpAnyH_take (i := 3) (v := .bool false) rfl (by kernel_rfl) (by kernel_rfl) (by kernel_rfl) (fun _ _ _ h => h) (Or.inl ⟨by kernel_rfl, fun W hW => ?y16⟩) hHeld ?r16
    · go_simp
    refine' wpAnyH_take (i := 4) (v := .int .i64 j) rfl (by kernel_rfl) (by kernel_rfl) (by kernel_rfl) (fun _ _ _ h => h) (Or.inl ⟨by kernel_rfl, fun W hW => ?y17⟩) hHeld ?r17
    · go_simp
    refine' wpAnyH_take (i := 5) (v := .bool true) rfl (by kernel_rfl) (by kernel_rfl) (by kernel_rfl) (fun _ _ _ h => h) (Or.inl ⟨by kernel_rfl, fun W hW => ?y18⟩) hHeld ?r18
    · go_simp
    refine' wpAnyH_take (i := 6) (v := .bool true) rfl (by kernel_rfl) (by kernel_rfl) (by kernel_rfl) (fun _ _ _ h => h) (Or.inl ⟨by kernel_rfl, fun W hW => ?y19⟩) hHeld ?r19
    · go_simp
    refine' wpAnyH_take (i := 7) (v := .pointer (some ⟨sw, 0, none⟩)) rfl (by kernel_rfl) (by kernel_rfl) (by kernel_rfl) (fun _ _ _ h => h) (Or.inl ⟨by kernel_rfl, fun W hW => ?y20⟩) hHeld ?r20
    · go_simp
    refine' wpAnyH_take (i := 8) (v := .pointer (some ⟨sw, 0, none⟩)) rfl (by kernel_rfl) (by kernel_rfl) (by kernel_rfl) (fun _ _ _ h => h) (Or.inl ⟨by kernel_rfl, fun W hW => ?y21⟩) hHeld ?r21
    · go_simp
    refine' wpAnyH_take (i := 9) (v := .pointer (some ⟨sw, 6, none⟩)) rfl (by kernel_rfl) (by kernel_rfl) (by kernel_rfl) (fun _ _ _ h => h) (Or.inl ⟨by kernel_rfl, fun W hW => ?y22⟩) hHeld ?r22
    · go_simp
    refine' wpAnyH_take (i := 10) (v := .slice (some ⟨g, 0, none⟩) N cap) rfl (by kernel_rfl) (by kernel_rfl) (by kernel_rfl) (fun _ _ _ h => h) (Or.inl ⟨by kernel_rfl, fun W hW => ?y23⟩) hHeld ?r23
    · have c := Hvb W hW
      go_simp
    refine' wpAnyH_take (i := 11) (v := .int .i64 j) rfl (by kernel_rfl) (by kernel_rfl) (by kernel_rfl) (fun _ _ _ h => h) (Or.inl ⟨by kernel_rfl, fun W hW => ?y24⟩) hHeld ?r24
    · go_simp
    refine' wpAnyH_take (i := 12) (v := .pointer (some ⟨g, j * 19, none⟩)) rfl (by kernel_rfl) (by kernel_rfl) (by kernel_rfl) (fun _ _ _ h => h) (Or.inl ⟨by kernel_rfl, fun W hW => ?y25⟩) hHeld ?r25
    · go_simp
    refine' wpAnyH_take (i := 13) (v := .pointer (some ⟨g, j * 19 + 3, none⟩)) rfl (by kernel_rfl) (by kernel_rfl) (by kernel_rfl) (fun _ _ _ h => h) (Or.inl ⟨by kernel_rfl, fun W hW => ?y26⟩) hHeld ?r26
    · go_simp
    refine' wpAnyH_take (i := 14) (v := _) rfl (by kernel_rfl) (by kernel_rfl) (by kernel_rfl) (fun _ _ _ h => h) (yieldsIf_load_mid (by kernel_rfl) _ _ rfl g (j * 19 + 3) (by kernel_rfl) SL _ (fun W h => Hsl W h) hu rfl hSi2) hHeld ?rl1
    refine' wpAnyH_take (i := 15) (v := _) rfl (by kernel_rfl) (by kernel_rfl) (by kernel_rfl) (fun _ _ _ h => h) (yieldsIf_load_mid (by kernel_rfl) _ _ rfl gz 0 (by kernel_rfl) SL _ (fun W h => Hz W h) hu rfl hSi2) hHeld ?rl2
    refine' wpAnyH_take (i := 16) (v := .bool false) rfl (by kernel_rfl) (by kernel_rfl) (by kernel_rfl) (fun _ _ _ h => h) (Or.inl ⟨by kernel_rfl, fun W hW => ?y27⟩) hHeld ?r27
    · have c := hne W
      go_simp
    refine' wpAnyH_take (i := 17) (v := .bool false) rfl (by kernel_rfl) (by kernel_rfl) (by kernel_rfl) (fun _ _ _ h => h) (Or.inl ⟨by kernel_rfl, fun W hW => ?y28⟩) hHeld ?r28
    · go_simp
    refine wpAnyH_ready (rs := [18]) (by kernel_rfl) (by simp) ?_
    refine AllReadyH.cons rfl (fun K hK => ?_) AllReadyH.nil
    go_simp
    refine hK.out _ _ hHeld (fun hHeld => ?_)
    clear hK
    refine wpAnyH_done (by kernel_rfl) ?_ _
    clear Hsl Hvb Hz hne hsl hfind hbW hca2 hsw hSone hSo hSi hSi2 hwr htext hvb RZ hSl
    have S1 := h.upd hk t1 (fun g q => .inl (.inl q)) { d k with V := V' } (by
      have e : sightC (updS d k { d k with V := V' }) vb = sightC d vb := by rcases (show k = 0 ∨ k = 1 by omega) with rfl | rfl <;> rfl
      rw [e]; exact row1) (by
      have hnt : noted (recs B k) a bs = recs B k := by rw [noted, if_pos ((mem_recs B k (a, bs)).2 hin)]
      rw [← hnt]; exact side1) fp1 book1 h.fb h.who (fun _ _ => rfl)
    have R : ∃ d' vb', Sight base w2.drew.drew sw d' vb' B' ∧ (∀ j, (d' j).E = (d j).E) ∧ Turn (fun g => base ≤ g) w w2.drew.drew := by
      rw [hB'.out, if_pos hin]
      exact ⟨_, _, S1.turn_no (T12.then_no hHeld), fun j => by by_cases hjk : j = k <;> simp [updS, hjk], (t2.then_no hHeld).mono (fun g _ q => h.fresh k g hk (.inl q))⟩
    clear S1 side1 side2 fp1 book1 book2 row1 row2 T12 t1 t2 h hs hf1 bk1 hb hin hHeld hn hi
    go_wp2_with fail
    go_end0
    exact ⟨rfl, R⟩
  · go_wp2_with fail
    refine hK.out _ _ hHeld (fun hHeld => ?_)
    clear hK
    refine wpAnyH_ready (rs := [14]) (by kernel_rfl) (by simp) ?_
    refine AllReadyH.cons rfl (fun K hK => ?_) AllReadyH.nil
    go_simp
    refine hK.out _ _ hHeld (fun hHeld => ?_)
    clear hK
    refine wpAnyH_done (by kernel_rfl) ?_ _
    go_wp2_with fail
    refine wp_region_held_drew (S := fun W => Turn no w2 W) (by kernel_rfl) (Turn.refl no w2).drew.drew (fun hHeld => ?_)
    refine' wpAnyH_take (i := 0) (v := .int .i64 0) rfl (by kernel_rfl) (by kernel_rfl) (by kernel_rfl) (fun _ _ _ h => h) (Or.inl ⟨by kernel_rfl, fun W hW => ?y29⟩) hHeld ?r29
    · go_simp
    refine wpAnyH_ready (rs := [1]) (by kernel_rfl) (by simp) ?_
    refine AllReadyH.cons rfl (fun K hK => ?_) AllReadyH.nil
    go_simp
    refine (numT _ 0).mono ?_
    rintro e w3 ⟨rfl, e3⟩
    have e3 := e3.symm
    subst e3
    go_wp2_with fail
    refine hK.out _ _ hHeld (fun hHeld => ?_)
    clear hK
    refine' wpAnyH_take (i := 2) (v := .bool false) rfl (by kernel_rfl) (by kernel_rfl) (by kernel_rfl) (fun _ _ _ h => h) (Or.inl ⟨by kernel_rfl, fun W hW => ?y30⟩) hHeld ?r30
    · go_simp
    refine' wpAnyH_take (i := 3) (v := .bool false) rfl (by kernel_rfl) (by kernel_rfl) (by kernel_rfl) (fun _ _ _ h => h) (Or.inl ⟨by kernel_rfl, fun W hW => ?y31⟩) hHeld ?r31
    · go_simp
    refine' wpAnyH_take (i := 4) (v := .int .i64 (-1)) rfl (by kernel_rfl) (by kernel_rfl) (by kernel_rfl) (fun _ _ _ h => h) (Or.inl ⟨by kernel_rfl, fun W hW => ?y32⟩) hHeld ?r32
    · go_simp
    refine' wpAnyH_take (i := 5) (v := .bool false) rfl (by kernel_rfl) (by kernel_rfl) (by kernel_rfl) (fun _ _ _ h => h) (Or.inl ⟨by kernel_rfl, fun W hW => ?y33⟩) hHeld ?r33
    · go_simp
    refine' wpAnyH_take (i := 6) (v := .bool false) rfl (by kernel_rfl) (by kernel_rfl) (by kernel_rfl) (fun _ _ _ h => h) (Or.inl ⟨by kernel_rfl, fun W hW => ?y34⟩) hHeld ?r34
    · go_simp
    refine' wpAnyH_take (i := 7) (v := undef) rfl (by kernel_rfl) (by kernel_rfl) (by kernel_rfl) (fun _ _ _ h => h) (Or.inr ⟨by kernel_rfl, rfl⟩) hHeld ?r35
    refine' wpAnyH_take (i := 8) (v := undef) rfl (by kernel_rfl) (by kernel_rfl) (by kernel_rfl) (fun _ _ _ h => h) (Or.inr ⟨by kernel_rfl, rfl⟩) hHeld ?r36
    refine' wpAnyH_take (i := 9) (v := undef) rfl (by kernel_rfl) (by kernel_rfl) (by kernel_rfl) (fun _ _ _ h => h) (Or.inr ⟨by kernel_rfl, rfl⟩) hHeld ?r37
    refine' wpAnyH_take (i := 10) (v := undef) rfl (by kernel_rfl) (by kernel_rfl) (by kernel_rfl) (fun _ _ _ h => h) (Or.inr ⟨by kernel_rfl, rfl⟩) hHeld ?r38
    refine' wpAnyH_take (i := 11) (v := undef) rfl (by kernel_rfl) (by kernel_rfl) (by kernel_rfl) (fun _ _ _ h => h) (Or.inr ⟨by kernel_rfl, rfl⟩) hHeld ?r39
    refine' wpAnyH_take (i := 12) (v := undef) rfl (by kernel_rfl) (by kernel_rfl) (by kernel_rfl) (fun _ _ _ h => h) (Or.inr ⟨by kernel_rfl, rfl⟩) hHeld ?r40
    refine' wpAnyH_take (i := 13) (v := undef) rfl (by kernel_rfl) (by kernel_rfl) (by kernel_rfl) (fun _ _ _ h => h) (Or.inr ⟨by kernel_rfl, rfl⟩) hHeld ?r41
    refine' wpAnyH_take (i := 14) (v := undef) rfl (by kernel_rfl) (by kernel_rfl) (by kernel_rfl) (fun _ _ _ h => h) (Or.inr ⟨by kernel_rfl, rfl⟩) hHeld ?r42
    refine' wpAnyH_take (i := 15) (v := undef) rfl (by kernel_rfl) (by kernel_rfl) (by kernel_rfl) (fun _ _ _ h => h) (Or.inr ⟨by kernel_rfl, rfl⟩) hHeld ?r43
    refine' wpAnyH_take (i := 16) (v := undef) rfl (by kernel_rfl) (by kernel_rfl) (by kernel_rfl) (fun _ _ _ h => h) (Or.inr ⟨by kernel_rfl, rfl⟩) hHeld ?r44
    refine' wpAnyH_take (i := 17) (v := .bool false) rfl (by kernel_rfl) (by kernel_rfl) (by kernel_rfl) (fun _ _ _ h => h) (Or.inl ⟨by kernel_rfl, fun W hW => ?y45⟩) hHeld ?r45
    · go_simp
    refine wpAnyH_ready (rs := [18]) (by kernel_rfl) (by simp) ?_
    refine AllReadyH.cons rfl (fun K hK => ?_) AllReadyH.nil
    go_simp
    refine hK.out _ _ hHeld (fun hHeld => ?_)
    clear hK
    refine wpAnyH_done (by kernel_rfl) ?_ _
    have T23 : Turn no w2 w2.drew.drew := hHeld
    have row3 := row2.turn T23 (fun q => q)
    have book3 := book2.turn_no T23
    have T13 := T12.then_no T23
    have t3 := t2.then_no T23
    have RZ3 := RZ.turn T23 (fun q => q)
    have c3 := hsw _ T23
    have hca3 := hca2 _ T23
    have hbW3 := hbW _ T23
    have hszz : gz < w2.drew.drew.heap.size := hgz
    clear hne hsl hfind hbW hca2 hsw hHeld RZ T12 T23 t2 row2 book2 side2
    generalize w2.drew.drew = w3 at *
    obtain ⟨y0, y1, y2, y3, y4, y5, y6, y7, y8, y9, y10, y11, y12, y13, y14, y15, hSLe⟩ := list16 SL hSl.out
    subst hSLe
    have hPsw : ∀ g, (g = sw ∨ vb.ownBlock = some g) → base ≤ g ∧ g < w.heap.size := fun g q => by
      rcases q with q | q
      · subst q; exact ⟨h.fs, hswl⟩
      · exact ⟨h.fb g q, hvbl g q⟩
    have hPga : ¬ (ga = sw ∨ vb.ownBlock = some ga) := fun q => by
      have o : Own w3 29 (.slice (some ⟨ga, 0, none⟩) n ca) ((d k).E.map u64V) := by rw [← hva2]; exact side1.oa.turn_no T13
      obtain ⟨c, ho⟩ := o.obj rfl
      rcases q with q | q
      · subst q
        exact absurd (tag_ne ho row3) (by decide)
      · obtain ⟨c', ho'⟩ := book3.obj q
        exact absurd (tag_ne ho ho') (by decide)
    have hPgz : ¬ (gz = sw ∨ vb.ownBlock = some gz) := fun q => by have := (hPsw gz q).2; omega
    have c3' : w3.cell? ⟨sw, 6, none⟩ = some vb := row3.cell 6 _ rfl
    have hbuild := fun W => run_build (P := Tryd.prog) W 79 #[(0, .int .i64 k), (1, .int .u64 a.toNat), (2, .string ⟨bs.toArray⟩), (3, .agg #[y0, y1, y2, y3, y4, y5, y6, y7, y8, y9, y10, y11, y12, y13, y14, y15])] #[.int .i64 k, .int .u64 a.toNat, .string ⟨bs.toArray⟩, y0, y1, y2, y3, y4, y5, y6, y7, y8, y9, y10, y11, y12, y13, y14, y15] (by kernel_rfl)
    have hown4 : OwnN (w3.alloc (.cells #[.int .i64 k, .int .u64 a.toNat, .string ⟨bs.toArray⟩, y0, y1, y2, y3, y4, y5, y6, y7, y8, y9, y10, y11, y12, y13, y14, y15] 79)).drew 79 19 vb B.length (B.flatMap wrC) := book3.turn_no ((Turn.refl no w3).alloc _).drew
    have hsrc : Src Tryd.prog 19 72 (.slice (some ⟨w3.heap.size, 0, none⟩) 1 1) 1 [.int .i64 k, .int .u64 a.toNat, .string ⟨bs.toArray⟩, y0, y1, y2, y3, y4, y5, y6, y7, y8, y9, y10, y11, y12, y13, y14, y15] (w3.alloc (.cells #[.int .i64 k, .int .u64 a.toNat, .string ⟨bs.toArray⟩, y0, y1, y2, y3, y4, y5, y6, y7, y8, y9, y10, y11, y12, y13, y14, y15] 79)).drew := Src.ofSlice _ Tryd.underlying72 _ _ _ _ rfl (fun j u hu => by
      have := (Row.new w3 #[.int .i64 k, .int .u64 a.toNat, .string ⟨bs.toArray⟩, y0, y1, y2, y3, y4, y5, y6, y7, y8, y9, y10, y11, y12, y13, y14, y15] 79).drew.cell j u (by simpa using hu)
      simpa [Addr.add_lit] using this) (by
      intro u hu
      rcases List.mem_cons.1 hu with rfl | hu
      · rfl
      rcases List.mem_cons.1 hu with rfl | hu
      · rfl
      rcases List.mem_cons.1 hu with rfl | hu
      · rfl
      exact hSone u hu)
    obtain ⟨v', w5, hap5, ho5, hg5⟩ := run_append_srcN (P := Tryd.prog) (t := 72) (tx := 72) Tryd.underlying72 info79 rfl (by omega) 72 (w3.alloc (.cells #[.int .i64 k, .int .u64 a.toNat, .string ⟨bs.toArray⟩, y0, y1, y2, y3, y4, y5, y6, y7, y8, y9, y10, y11, y12, y13, y14, y15] 79)).drew vb B.length _ hown4 (.slice (some ⟨w3.heap.size, 0, none⟩) 1 1) 1 _ hsrc hmB hmB2
    have hform : ∃ a n c, v' = .slice a n c := by
      obtain ⟨a, c, e, _⟩ := ho5.form
      exact ⟨_, _, _, e⟩
    have hswl3 : Shut (sw < w3.heap.size) := row3.lt
    have t35 : Turn (fun g => g = sw ∨ vb.ownBlock = some g) w3 w5 := (((Turn.refl no w3).alloc _).drew.of_no).trans hg5.turn (fun _ _ q => .inr q)
    have t36 : Turn (fun g => g = sw ∨ vb.ownBlock = some g) w3 (w5.setCell ⟨sw, 6, none⟩ v') := t35.setCell (p := ⟨sw, 6, none⟩) (fun _ => .inl rfl) v'
    have row5 : Row w5 sw (sightC d vb) 74 := (row3.turn ((Turn.refl no w3).alloc _).drew (fun q => q)).turn hg5.turn (fun q => h.vb_sw q)
    have row6 : Row (w5.setCell ⟨sw, 6, none⟩ v') sw (sightC d v') 74 := row5.set 6 v'
    have a5 : w5.cell? ⟨sw, 6, none⟩ = some vb := row5.cell 6 _ rfl
    have f5 : w5.frozen? ⟨sw, 6, none⟩ = false := row5.frozen 6
    have H1 : Turn (fun g => g = sw ∨ vb.ownBlock = some g) w3 w3.drew ∧ w3.drew.cell? ⟨sw, 4 + k, none⟩ = some (.slice (some ⟨ga, 0, none⟩) n ca) := ⟨(Turn.refl _ w3).drew, c3⟩
    have H2 : Turn (fun g => g = sw ∨ vb.ownBlock = some g) w3 (w3.alloc (.cells #[.int .i64 k, .int .u64 a.toNat, .string ⟨bs.toArray⟩, y0, y1, y2, y3, y4, y5, y6, y7, y8, y9, y10, y11, y12, y13, y14, y15] 79)).drew ∧ (w3.alloc (.cells #[.int .i64 k, .int .u64 a.toNat, .string ⟨bs.toArray⟩, y0, y1, y2, y3, y4, y5, y6, y7, y8, y9, y10, y11, y12, y13, y14, y15] 79)).drew.cell? ⟨sw, 4 + k, none⟩ = some (.slice (some ⟨ga, 0, none⟩) n ca) := ⟨((Turn.refl _ w3).alloc _).drew, (Turn.refl no w3).alloc _ |>.drew |>.keep c3 (fun q => q)⟩
    have H5 : Turn (fun g => g = sw ∨ vb.ownBlock = some g) w3 w5 ∧ w5.cell? ⟨sw, 4 + k, none⟩ = some (.slice (some ⟨ga, 0, none⟩) n ca) := ⟨t35, by rw [← hva2]; exact row_at4 row5 hk⟩
    have H6 : Turn (fun g => g = sw ∨ vb.ownBlock = some g) w3 (w5.setCell ⟨sw, 6, none⟩ v') ∧ (w5.setCell ⟨sw, 6, none⟩ v').cell? ⟨sw, 4 + k, none⟩ = some (.slice (some ⟨ga, 0, none⟩) n ca) := ⟨t36, by rw [← hva2]; exact row_at4 row6 hk⟩
    have R : ∃ d' vb', Sight base (w5.setCell ⟨sw, 6, none⟩ v') sw d' vb' B' ∧ (∀ j, (d' j).E = (d j).E) ∧ Turn (fun g => base ≤ g) w (w5.setCell ⟨sw, 6, none⟩ v') := by
      have t6 : Turn (fun g => Fp (d k).p (d k).br (d k).bt (d k).V g ∨ g = sw ∨ vb.ownBlock = some g) w (w5.setCell ⟨sw, 6, none⟩ v') := (t3.mono (fun _ _ q => .inl q)).trans t36 (fun _ _ q => .inr q)
      have t16 : Turn (fun g => g = sw ∨ vb.ownBlock = some g) w1 (w5.setCell ⟨sw, 6, none⟩ v') := T13.of_no.trans t36 (fun _ _ q => q)
      rw [hB'.out, if_neg hno]
      refine ⟨_, v', h.upd hk t6 (fun g q => ?_) { d k with V := V' } ?_ ?_ fp1 ?_ (fun g hg => ?_) hwho (fun j hj => ?_), fun j => by by_cases hjk : j = k <;> simp [updS, hjk], t6.mono (fun g _ q => ?_)⟩
      · exact q.elim (fun q => .inl (.inl q)) .inr
      · have e : sightC (updS d k { d k with V := V' }) v' = sightC d v' := by rcases (show k = 0 ∨ k = 1 by omega) with rfl | rfl <;> rfl
        rw [e]
        exact row6
      · have e : recs (B ++ [(k, a, bs)]) k = noted (recs B k) a bs := by
          rw [recs_append, noted, if_neg (fun q => hno ((mem_recs B k (a, bs)).1 q)), if_pos rfl]
        rw [e]
        refine side1.turn t16 (fun g hg q => ?_)
        rcases q with q | q
        · subst q
          exact side1.away row1 (by decide) (by decide) (by decide) (by decide) (by decide) hg
        · obtain ⟨c', ho'⟩ := book1.obj q
          exact side1.away ho' (by decide) (by decide) (by decide) (by decide) (by decide) hg
      · have e : (B ++ [(k, a, bs)]).flatMap wrC = B.flatMap wrC ++ [.int .i64 k, .int .u64 a.toNat, .string ⟨bs.toArray⟩, y0, y1, y2, y3, y4, y5, y6, y7, y8, y9, y10, y11, y12, y13, y14, y15] := by
          rw [List.flatMap_append, List.flatMap_singleton, hwr.out]
        rw [e, List.length_append]
        exact ho5.turn ((Turn.refl (fun g => g = sw) w5).setCell (p := ⟨sw, 6, none⟩) (fun _ => rfl) v') (fun g hg q => by
          subst q
          obtain ⟨c', ho'⟩ := ho5.obj hg
          exact absurd (tag_ne ho' row5) (by decide))
      · rcases hg5.blk with e | ⟨g', e, h1, _⟩
        · exact h.fb g (by rw [← e]; exact hg)
        · rw [e] at hg
          cases hg
          have := t3.size
          simp at h1
          omega
      · rw [recs_append, if_neg hj, List.append_nil]
      · rcases q with q | q
        · exact h.fresh k g hk (.inl q)
        · exact (hPsw g q).1
    clear t35 t36 row5 row6 hg5 ho5 hsrc hown4 t3 T13 side1 fp1 book1 book3 row1 t1 hf1 bk1 hb hno hwho hwr h hs hSone hSo hSi hn hi
    go_wp2_with fail
    refine wp_region_held_drew (S := fun W => Turn (fun g => g = sw ∨ vb.ownBlock = some g) w3 W ∧ W.cell? ⟨sw, 4 + k, none⟩ = some (.slice (some ⟨ga, 0, none⟩) n ca)) (by kernel_rfl) H1 (fun hHeld => ?_)
    refine' wpAnyH_take (i := 0) (v := .pointer (some ⟨sw, 0, none⟩)) rfl (by kernel_rfl) (by kernel_rfl) (by kernel_rfl) (fun _ _ _ h => h) (Or.inl ⟨by kernel_rfl, fun W hW => ?y46⟩) hHeld ?r46
    · go_simp
    refine' wpAnyH_take (i := 1) (v := .pointer (some ⟨sw, 0, none⟩)) rfl (by kernel_rfl) (by kernel_rfl) (by kernel_rfl) (fun _ _ _ h => h) (Or.inl ⟨by kernel_rfl, fun W hW => ?y47⟩) hHeld ?r47
    · go_simp
    refine' wpAnyH_take (i := 2) (v := .pointer (some ⟨sw, 0, none⟩)) rfl (by kernel_rfl) (by kernel_rfl) (by kernel_rfl) (fun _ _ _ h => h) (Or.inl ⟨by kernel_rfl, fun W hW => ?y48⟩) hHeld ?r48
    · go_simp
    refine' wpAnyH_take (i := 3) (v := .pointer (some ⟨sw, 6, none⟩)) rfl (by kernel_rfl) (by kernel_rfl) (by kernel_rfl) (fun _ _ _ h => h) (Or.inl ⟨by kernel_rfl, fun W hW => ?y49⟩) hHeld ?r49
    · go_simp
    refine' wpAnyH_take (i := 5) (v := .int .i64 k) rfl (by kernel_rfl) (by kernel_rfl) (by kernel_rfl) (fun _ _ _ h => h) (Or.inl ⟨by kernel_rfl, fun W hW => ?y50⟩) hHeld ?r50
    · go_simp
    refine' wpAnyH_take (i := 6) (v := .pointer (some ⟨sw, 0, none⟩)) rfl (by kernel_rfl) (by kernel_rfl) (by kernel_rfl) (fun _ _ _ h => h) (Or.inl ⟨by kernel_rfl, fun W hW => ?y51⟩) hHeld ?r51
    · go_simp
    refine' wpAnyH_take (i := 7) (v := .int .i64 k) rfl (by kernel_rfl) (by kernel_rfl) (by kernel_rfl) (fun _ _ _ h => h) (Or.inl ⟨by kernel_rfl, fun W hW => ?y52⟩) hHeld ?r52
    · go_simp
    refine' wpAnyH_take (i := 8) (v := .pointer (some ⟨sw, 0, none⟩)) rfl (by kernel_rfl) (by kernel_rfl) (by kernel_rfl) (fun _ _ _ h => h) (Or.inl ⟨by kernel_rfl, fun W hW => ?y53⟩) hHeld ?r53
    · go_simp
    refine' wpAnyH_take (i := 9) (v := .pointer (some ⟨sw, 4, none⟩)) rfl (by kernel_rfl) (by kernel_rfl) (by kernel_rfl) (fun _ _ _ h => h) (Or.inl ⟨by kernel_rfl, fun W hW => ?y54⟩) hHeld ?r54
    · go_simp
    refine' wpAnyH_take (i := 10) (v := .pointer (some ⟨sw, 4 + k, none⟩)) rfl (by kernel_rfl) (by kernel_rfl) (by kernel_rfl) (fun _ _ _ h => h) (Or.inl ⟨by kernel_rfl, fun W hW => ?y55⟩) hHeld ?r55
    · go_simp
    refine' wpAnyH_take (i := 11) (v := .slice (some ⟨ga, 0, none⟩) n ca) rfl (by kernel_rfl) (by kernel_rfl) (by kernel_rfl) (fun _ _ _ h => h) (Or.inl ⟨by kernel_rfl, fun W hW => ?y56⟩) hHeld ?r56
    · have c := hW.2
      go_simp
    refine' wpAnyH_take (i := 12) (v := .int .i64 i) rfl (by kernel_rfl) (by kernel_rfl) (by kernel_rfl) (fun _ _ _ h => h) (Or.inl ⟨by kernel_rfl, fun W hW => ?y57⟩) hHeld ?r57
    · go_simp
    refine' wpAnyH_take (i := 13) (v := .pointer (some ⟨ga, i, none⟩)) rfl (by kernel_rfl) (by kernel_rfl) (by kernel_rfl) (fun _ _ _ h => h) (Or.inl ⟨by kernel_rfl, fun W hW => ?y58⟩) hHeld ?r58
    · go_simp
    refine' wpAnyH_take (i := 14) (v := .int .u64 a.toNat) rfl (by kernel_rfl) (by kernel_rfl) (by kernel_rfl) (fun _ _ _ h => h) (Or.inl ⟨by kernel_rfl, fun W hW => ?y59⟩) hHeld ?r59
    · have c := hW.1.keep hca3 hPga
      go_simp
    refine' wpAnyH_take (i := 15) (v := .slice va' bs.length vc) rfl (by kernel_rfl) (by kernel_rfl) (by kernel_rfl) (fun _ _ _ h => h) (Or.inl ⟨by kernel_rfl, fun W hW => ?y60⟩) hHeld ?r60
    · go_simp
    refine' wpAnyH_take (i := 16) (v := .string ⟨bs.toArray⟩) rfl (by kernel_rfl) (by kernel_rfl) (by kernel_rfl) (fun _ _ _ h => h) (Or.inl ⟨by kernel_rfl, fun W hW => ?y61⟩) hHeld ?r61
    · have c := htext W (hbW3.late hW.1 (fun hne g hg q => by have := hva0 hne g hg; have := (hPsw g q).1; omega))
      go_simp
    refine' wpAnyH_take (i := 17) (v := _) rfl (by kernel_rfl) (by kernel_rfl) (by kernel_rfl) (fun _ _ _ h => h) (yieldsIf_load_mid (by kernel_rfl) _ _ rfl gz 0 (by kernel_rfl) [y0, y1, y2, y3, y4, y5, y6, y7, y8, y9, y10, y11, y12, y13, y14, y15] _ (fun W h => (RZ3.turn h.1 hPgz).range) hu rfl hSi2) hHeld ?rl3
    refine' wpAnyH_take (i := 18) (v := .agg #[.int .i64 k, .int .u64 a.toNat, .string ⟨bs.toArray⟩, y0, y1, y2, y3, y4, y5, y6, y7, y8, y9, y10, y11, y12, y13, y14, y15]) rfl (by kernel_rfl) (by kernel_rfl) (by kernel_rfl) (fun _ _ _ h => h) (Or.inl ⟨by kernel_rfl, fun W hW => ?y62⟩) hHeld ?r62
    · have c := hbuild W
      go_simp
    refine wpAnyH_ready (rs := [4, 19]) (by kernel_rfl) (by simp) ?_
    refine AllReadyH.cons rfl (fun K hK => ?_) (AllReadyH.cons rfl (fun K hK => ?_) AllReadyH.nil)
    · go_simp
      refine hK.out _ _ H1 (fun hHeld => ?_)
      clear hK
      refine wpAnyH_ready (rs := [19]) (by kernel_rfl) (by simp) ?_
      refine AllReadyH.cons rfl (fun K hK => ?_) AllReadyH.nil
      go_simp
      refine hK.out _ _ H2 (fun hHeld => ?_)
      clear hK
      refine wpAnyH_ready (rs := [20]) (by kernel_rfl) (by simp) ?_
      refine AllReadyH.cons rfl (fun K hK => ?_) AllReadyH.nil
      rw [if_pos (by rfl)]
      refine wp_append_run _ _ rfl _ _ rfl rfl hap5 ?_
      refine hK.out _ _ H5 (fun hHeld => ?_)
      clear hK
      refine' wpAnyH_take (i := 21) (v := .pointer (some ⟨sw, 0, none⟩)) rfl (by kernel_rfl) (by kernel_rfl) (by kernel_rfl) (fun _ _ _ h => h) (Or.inl ⟨by kernel_rfl, fun W hW => ?y63⟩) hHeld ?r63
      · go_simp
      refine' wpAnyH_take (i := 22) (v := .pointer (some ⟨sw, 6, none⟩)) rfl (by kernel_rfl) (by kernel_rfl) (by kernel_rfl) (fun _ _ _ h => h) (Or.inl ⟨by kernel_rfl, fun W hW => ?y64⟩) hHeld ?r64
      · go_simp
      refine wpAnyH_ready (rs := [23]) (by kernel_rfl) (by simp) ?_
      refine AllReadyH.cons rfl (fun K hK => ?_) AllReadyH.nil
      obtain ⟨ad, ln, cp, hv'⟩ := hform
      subst hv'
      go_simp
      refine hK.out _ _ H6 (fun hHeld => ?_)
      clear hK
      refine wpAnyH_done (by kernel_rfl) ?_ _
      clear H1 H2 H5 H6 hHeld hbuild hap5 a5 f5 c3 c3' hca3 hbW3 RZ3 hSi2
      go_wp2_with fail
      go_end0
      exact ⟨rfl, R⟩
    · go_simp
      refine hK.out _ _ H2 (fun hHeld => ?_)
      clear hK
      refine wpAnyH_ready (rs := [4]) (by kernel_rfl) (by simp) ?_
      refine AllReadyH.cons rfl (fun K hK => ?_) AllReadyH.nil
      have hswl4 : sw < w3.heap.size := hswl3
      go_simp
      refine hK.out _ _ H2 (fun hHeld => ?_)
      clear hK
      refine wpAnyH_ready (rs := [20]) (by kernel_rfl) (by simp) ?_
      refine AllReadyH.cons rfl (fun K hK => ?_) AllReadyH.nil
      rw [if_pos (by rfl)]
      refine wp_append_run _ _ rfl _ _ rfl rfl hap5 ?_
      refine hK.out _ _ H5 (fun hHeld => ?_)
      clear hK
      refine' wpAnyH_take (i := 21) (v := .pointer (some ⟨sw, 0, none⟩)) rfl (by kernel_rfl) (by kernel_rfl) (by kernel_rfl) (fun _ _ _ h => h) (Or.inl ⟨by kernel_rfl, fun W hW => ?y65⟩) hHeld ?r65
      · go_simp
      refine' wpAnyH_take (i := 22) (v := .pointer (some ⟨sw, 6, none⟩)) rfl (by kernel_rfl) (by kernel_rfl) (by kernel_rfl) (fun _ _ _ h => h) (Or.inl ⟨by kernel_rfl, fun W hW => ?y66⟩) hHeld ?r66
      · go_simp
      refine wpAnyH_ready (rs := [23]) (by kernel_rfl) (by simp) ?_
      refine AllReadyH.cons rfl (fun K hK => ?_) AllReadyH.nil
      obtain ⟨ad, ln, cp, hv'⟩ := hform
      subst hv'
      go_simp
      refine hK.out _ _ H6 (fun hHeld => ?_)
      clear hK
      refine wpAnyH_done (by kernel_rfl) ?_ _
      clear H1 H2 H5 H6 hHeld hbuild hap5 a5 f5 c3 c3' hca3 hbW3 RZ3 hSi2
      go_wp2_with fail
      go_end0
      exact ⟨rfl, R⟩

theorem sign35 (h : Sight base w sw d vb B) {k : Nat} (hk : k < 2) (x : Int) (va : Value) (bs : List UInt8) (hb : Bs w va bs) (hva0 : bs ≠ [] → ∀ g, va.ownBlock = some g → g < base) (hl : Laid1 w) (h2 : 2 ≤ base) (hm : (d k).E.length + B.length ≤ 4398046511104) (hm2 : B.length ≤ 1599289640401) :
    Calls Tryd.prog 35 #[.pointer (some ⟨sw, 0, none⟩), .int .i64 k, .int .i64 x, va] w fun e w' => e = .returned (.tuple #[]) ∧ ∃ d' vb', Sight base w' sw d' vb' (sgB B (d k).E k x bs) ∧ (∀ j, (d' j).E = (d j).E) ∧ Turn (fun g => base ≤ g) w w' := by
  by_cases hn : (d k).E = [] ∨ 1048576 < bs.length
  · refine (sign35_not h hk x va bs hb hn).mono fun e w' ⟨he, hw⟩ => ⟨he, d, vb, ?_, fun _ => rfl, by rw [hw]; exact Turn.refl _ _⟩
    rw [hw, sgB, if_pos hn]
    exact h
  · refine sign35_main h hk x va bs hb hva0 hl h2 (fun q => hn (.inl q)) (by have : ¬ 1048576 < bs.length := fun q => hn (.inr q); omega) hm hm2 _ ?_
    rw [sgB, if_neg hn]
end
end Go.Proofs.YtnlcngcilojnkaaDoor
