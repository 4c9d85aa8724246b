/- A text as bytes, and one byte behind it. -/
import Derived.Test.YtnlcngcilojnkabDoorT1
import Derived.Lib.ConvBytes
namespace Go.Proofs.YtnlcngcilojnkabDoor
open Go.RowKit Go.Maps Go.MuLone
set_option linter.unusedVariables false

theorem run_store_one {P : Program} (w : World) (g n : Nat) (u x : Value) (hx : w.cell? ⟨g, n, none⟩ = some x) (hf : w.frozen? ⟨g, n, none⟩ = false) (hu : u.oneCell' = true) : (storeCells ⟨g, n, none⟩ [u]).run P w = .ok () (w.setCell ⟨g, n, none⟩ u) := by
  have h : (store ⟨g, n, none⟩ u).run P w = .ok () (w.setCell ⟨g, n, none⟩ u) := by
    rw [run_store P w _ u _ hu, hx]
    simp [hf]
  simp [storeCells, Addr.add_lit, h]

section
variable {P : Program}
/-- One byte behind bytes that lie in a row of their own. -/
theorem run_append_bs {t tx e : TypeId} {z : Value} {bytes : Nat} (ht : P.underlying t = some (.slice e)) (hinf : (P.info? e).map (fun i => (i.zero, i.size, i.bytes)) = some (some z, 1, bytes)) (hz : z.cells.size = 1)
    (ty : TypeId) (w : World) (g cap : Nat) (bs : List UInt8) (hc : ∀ j u, bs[j]? = some u → w.cell? ⟨g, j, none⟩ = some (bv u)) (hcap : bs.length ≤ cap) (hcm : cap ≤ maxLen) (hroom : bs.length < cap → ∃ x, w.cell? ⟨g, bs.length, none⟩ = some x ∧ w.frozen? ⟨g, bs.length, none⟩ = false)
    (b : UInt8) (x : Value) (hs : Src P 1 tx x 1 [bv b] w) (hb : (bs.length + 1) * bytes ≤ 140737488355328) (hm : bs.length + 1 ≤ maxLen) :
    ∃ v' w', (Builtin.append_ #[t, tx] ty #[.slice (some ⟨g, 0, none⟩) bs.length cap, x]).run P w = .ok v' w' ∧ Bs w' v' (bs ++ [b]) ∧ Turn (fun k => k = g) w w' ∧ (v'.ownBlock = some g ∨ v'.ownBlock = some w.heap.size) := by
  obtain ⟨i, hi, hz0, hz1, hz2⟩ := info_parts hinf
  by_cases hr : bs.length + 1 ≤ cap
  · obtain ⟨x0, hx0, hf0⟩ := hroom (by omega)
    have hst := run_store_one (P := P) w g bs.length (bv b) x0 hx0 hf0 rfl
    refine ⟨.slice (some ⟨g, 0, none⟩) (bs.length + 1) cap, w.setCell ⟨g, bs.length, none⟩ (bv b), ?_, .inr ⟨⟨g, 0, none⟩, cap, by simp, by simpa using hr, hcm, fun j u hu => ?_⟩, (Turn.refl (fun k => k = g) w).setCell (p := ⟨g, bs.length, none⟩) (fun _ => rfl) _, .inl rfl⟩
    · have hcc := hs.cells
      rcases hs.kind with ⟨e', hk⟩ | hk <;> simp [Builtin.append_, run_underlying ht, run_underlying hk, sizeOf, typeInfo, hi, hz1, hs.len, hr, hcc, Addr.add_lit, hst]
    · rw [Addr.add_lit]
      by_cases hj : j < bs.length
      · rw [List.getElem?_append_left hj] at hu
        rw [World.cell?_setCell_other _ _ _ _ (by intro q; simp at q)]
        simpa using hc j u hu
      · have hj' : j = bs.length := by
          have := (List.getElem?_eq_some_iff.1 hu).1
          simp at this
          omega
        subst hj'
        simp at hu
        subst hu
        simpa using World.cell?_setCell_same w _ (bv b) hx0
  · have hold : (Builtin.firstCells 1 bs.length (.slice (some ⟨g, 0, none⟩) bs.length cap)).run P w.drew = .ok (bs.map bv).toArray w.drew :=
      run_firstCells_some w.drew 1 bs.length ⟨g, 0, none⟩ bs.length cap (bs.map bv) (by simp) (fun j u hu => by
        rw [List.getElem?_map] at hu
        cases hb : bs[j]? with
        | none => rw [hb] at hu; cases hu
        | some b => rw [hb] at hu; cases hu; rw [Addr.add_lit]; simpa using hc j b hb)
    have hr := run_append_grow_src (P := P) w t tx ty e i z ht hi hz0 (some ⟨g, 0, none⟩) bs.length cap (bs.map bv) (by rw [hz1]; exact hold) x 1 [bv b] (by rw [hz1]; exact hs) (by omega) (by simp only [maxLen] at hm; omega) (growslice_fits (by omega) (by rw [hz2]; exact hb))
    have hge := grownCap_ge w (bs.length + 1) cap e
    have hcm2 := grownCap_le_maxLen w (bs.length + 1) cap e hm
    refine ⟨_, _, hr, .inr ⟨⟨w.heap.size, 0, none⟩, _, by simp, by simpa using hge, hcm2, fun j u hu => ?_⟩, ((Turn.refl no w).drew.alloc _).of_no, .inr rfl⟩
    rw [Addr.add_lit]
    have hl : j < bs.length + 1 := by have := (List.getElem?_eq_some_iff.1 hu).1; simpa using this
    have hget : (bs.map bv ++ [bv b])[j]? = some (bv u) := by
      have : bs.map bv ++ [bv b] = (bs ++ [b]).map bv := by simp
      rw [this, List.getElem?_map, hu]
      rfl
    have := cell_of_row (w.drew.alloc (.cells ((bs.map bv ++ [bv b]).toArray ++ Builtin.zeroCells z.cells (grownCap w (bs.length + 1) cap e - (bs.length + 1))) e)) w.heap.size (0 + j) _ e (0, 0) (heap_alloc_new w.drew _)
    rw [this, Nat.zero_add, Array.getElem?_append_left (by simp; omega)]
    simpa using hget
end

/-- The bytes of a text, in a row of their own. -/
theorem conv_bs (w : World) (s : List UInt8) (hs : s.length ≤ 1048577) : (convert 9 29 (.string ⟨s.toArray⟩)).run Tryd.prog w = .ok (.slice (some ⟨w.heap.size, 0, none⟩) s.length (grownCap w s.length 0 5)) (Lib.bytesWorld w 5 ⟨s.toArray⟩) ∧ Turn no w (Lib.bytesWorld w 5 ⟨s.toArray⟩) ∧ (Lib.bytesWorld w 5 ⟨s.toArray⟩).heap.size = w.heap.size + 1 ∧
    (∀ j u, s[j]? = some u → (Lib.bytesWorld w 5 ⟨s.toArray⟩).cell? ⟨w.heap.size, j, none⟩ = some (bv u)) ∧ s.length ≤ grownCap w s.length 0 5 ∧ grownCap w s.length 0 5 ≤ maxLen ∧
    (s.length < grownCap w s.length 0 5 → ∃ x, (Lib.bytesWorld w 5 ⟨s.toArray⟩).cell? ⟨w.heap.size, s.length, none⟩ = some x ∧ (Lib.bytesWorld w 5 ⟨s.toArray⟩).frozen? ⟨w.heap.size, s.length, none⟩ = false) := by
  have hsz := strSize s
  have h := Lib.run_convert_string_bytes (P := Tryd.prog) w 9 29 5 ⟨s.toArray⟩ Tryd.underlying9 Tryd.underlying29 Tryd.underlying5
  rw [hsz] at h
  have hge := grownCap_ge w s.length 0 5
  have hcs : (Lib.bytesCells w 5 ⟨s.toArray⟩).size = grownCap w s.length 0 5 := by
    simp [Lib.bytesCells, ByteArray.size]
    omega
  refine ⟨h, ⟨rfl, rfl, rfl, by rw [Lib.bytesWorld_size]; omega, fun k hk _ => Lib.bytesWorld_at_old w 5 _ k hk⟩, Lib.bytesWorld_size _ _ _, fun j u hu => ?_, hge, grownCap_le_maxLen w s.length 0 5 (by simp [maxLen]; omega), fun hlt => ?_⟩
  · have hj := (List.getElem?_eq_some_iff.1 hu).1
    rw [Lib.bytesWorld_cell w 5 ⟨s.toArray⟩ j (by rw [hsz]; exact hj)]
    simp [bv, List.getD, hu]
  · have ho := Lib.bytesWorld_at_new w 5 ⟨s.toArray⟩
    have hlt' : s.length < (Lib.bytesCells w 5 ⟨s.toArray⟩).size := by omega
    refine ⟨(Lib.bytesCells w 5 ⟨s.toArray⟩)[s.length], ?_, ?_⟩
    · simp [World.cell?, ho, hlt']
    · simp [World.frozen?, ho]
      omega
theorem info5T : (Tryd.prog.info? 5).map (fun i => (i.zero, i.size, i.bytes)) = some (some (.int .u8 0), 1, 1) := by kernel_rfl
theorem conv_one (w : World) (s : List UInt8) (hs : s.length ≤ 1048576) : ∃ cap w', (convert 9 29 (.string ⟨s.toArray⟩)).run Tryd.prog w = .ok (.slice (some ⟨w.heap.size, 0, none⟩) s.length cap) w' ∧ Turn no w w' ∧ w'.heap.size = w.heap.size + 1 ∧ Bs w' (.slice (some ⟨w.heap.size, 0, none⟩) s.length cap) s := by
  obtain ⟨h, T, hz, k, l, m, _⟩ := conv_bs w s (by omega)
  exact ⟨_, _, h, T, hz, .inr ⟨_, _, rfl, l, m, fun j u hu => by rw [Addr.add_lit]; simpa using k j u hu⟩⟩
theorem conv_more (w : World) (s : List UInt8) (hs : s.length ≤ 1048576) : ∃ cap w', (convert 9 29 (.string ⟨s.toArray⟩)).run Tryd.prog w = .ok (.slice (some ⟨w.heap.size, 0, none⟩) s.length cap) w' ∧ Turn no w w' ∧ w'.heap.size = w.heap.size + 1 ∧
    ∃ mo w2, (Builtin.append_ #[29, 29] 29 #[.slice (some ⟨w.heap.size, 0, none⟩) s.length cap, .slice (some ⟨w'.heap.size, 0, none⟩) 1 1]).run Tryd.prog (w'.alloc (.cells #[.int .u8 0] 5)) = .ok mo w2 ∧ Bs w2 mo (s ++ [0]) ∧ Turn no w w2 ∧ (∀ g, mo.ownBlock = some g → w.heap.size ≤ g) := by
  obtain ⟨h, T, hz, k, l, m, r⟩ := conv_bs w s (by omega)
  generalize Lib.bytesWorld w 5 ⟨s.toArray⟩ = w' at *
  generalize grownCap w s.length 0 5 = cap at *
  have T2 : Turn no w' (w'.alloc (.cells #[.int .u8 0] 5)) := (Turn.refl no w').alloc _
  obtain ⟨mo, w2, h2, b2, t2, e2⟩ := run_append_bs (P := Tryd.prog) (t := 29) (tx := 29) Tryd.underlying29 info5T rfl 29 (w'.alloc (.cells #[.int .u8 0] 5)) w.heap.size cap s (fun j u hu => T2.keep (k j u hu) (fun q => q)) l m (fun hlt => by
    obtain ⟨x, h1, h2⟩ := r hlt
    exact ⟨x, T2.keep h1 (fun q => q), (T2.frozen (World.block_lt_of_cell? _ _ h1) (fun q => q)).trans h2⟩) 0 (.slice (some ⟨w'.heap.size, 0, none⟩) 1 1) (src_byte Tryd.underlying29 w' 0 0 rfl) (by omega) (by simp only [maxLen]; omega)
  refine ⟨cap, w', h, T, hz, mo, w2, h2, b2, ?_, fun g hg => ?_⟩
  · exact ((T.then_no T2).of_no.trans t2 (fun _ _ q => q)).mono (S := fun k => k = w.heap.size) (fun g hg q => absurd hg (by omega))
  · rcases e2 with e | e
    · rw [e] at hg; cases hg; exact Nat.le_refl _
    · rw [e] at hg
      cases hg
      have := T2.size
      omega
end Go.Proofs.YtnlcngcilojnkabDoor
