/- alike. -/
import Derived.Test.YtcdogciacchigabL0
import Derived.Lib.ConvBytes
namespace Go.Proofs.Ytcdogciacchigab
open Go.RowKit Go.Maps
set_option linter.unusedVariables false

theorem foldl_bytes : ∀ (l : List UInt8) (s : ByteArray), (l.map fun b => (b.toNat : Int)).foldl (fun r n => r.push (UInt8.ofNat n.toNat)) s = ⟨s.data ++ l.toArray⟩
  | [], s => by simp
  | b :: l, s => by
    rw [List.map_cons, List.foldl_cons, foldl_bytes l]
    simp [ByteArray.push]
/-- A slice of bytes turned into a text. -/
theorem bytes_text {w : World} {v : Value} {bs : List UInt8} (hb : Bs w v bs) : (convert 28 9 v).run Try.prog w = .ok (.string ⟨bs.toArray⟩) w := by
  obtain ⟨a, c, hv⟩ := hb.slice
  subst hv
  rw [run_convert_bytes_string w 28 9 5 a bs.length c Try.underlying28 Try.underlying5 Try.underlying9]
  rcases hb with ⟨h, rfl⟩ | ⟨a', c', h, _, _, h3⟩
  · cases h
    simp [Conv.bytesToString]
    rfl
  · cases h
    have hl := run_loadCells_list (P := Try.prog) w a' (bs.map bv) (fun j u hu => by
      rw [List.getElem?_map] at hu
      cases hb : bs[j]? with
      | none => rw [hb] at hu; cases hu
      | some b => rw [hb] at hu; cases hu; exact h3 j b hb)
    have e1 : bs.map bv = (bs.map fun b => (b.toNat : Int)).map (Value.int .u8) := by rw [List.map_map]; rfl
    rw [List.length_map, e1] at hl
    rw [run_bytesToString w a' bs.length c (bs.map fun b => (b.toNat : Int)) hl, foldl_bytes]
    simp
theorem Tl.at {B : Nat} {w : World} {v : Value} {l : List Pf} (h : Tl B w v l) (i : Nat) (f : Pf) (hf : l[i]? = some f) : ∃ g c a n c', v = .slice (some ⟨g, 0, none⟩) l.length c ∧ w.cell? ⟨g, i * 3, none⟩ = some (strV f.nm) ∧ w.cell? ⟨g, i * 3 + 1, none⟩ = some (.slice a n c') ∧ w.cell? ⟨g, i * 3 + 2, none⟩ = some (.int .i64 f.sy) ∧ Own w 5 (.slice a n c') (f.bs.map bv) := by
  obtain ⟨vs, h1, h2, h3, h4⟩ := h
  have hil := (List.getElem?_eq_some_iff.1 hf).1
  obtain ⟨u, hu⟩ : ∃ u, vs[i]? = some u := ⟨vs[i]'(by omega), List.getElem?_eq_getElem _⟩
  obtain ⟨hO, _⟩ := h4 i f u hf hu
  obtain ⟨a, n, c', rfl⟩ := hO.slice
  obtain ⟨e0, e1, e2⟩ := tlC_at l vs h1 i f _ hf hu
  rcases h2.2 with ⟨_, q⟩ | ⟨g, cap, cur, rfl, _⟩
  · omega
  · have hc : ∀ j x, (tlC l vs)[j]? = some x → w.cell? ⟨g, j, none⟩ = some x := fun j x hx => by
      have := World.ownsRow.cells h2 (g := g) rfl j x hx
      simpa [Addr.add_lit] using this
    exact ⟨g, cap, a, n, c', rfl, hc _ _ e0, hc _ _ e1, hc _ _ e2, hO⟩

section
variable {w : World} {p q : Nat} {K K' : Nat → Prop} {s s' : St}
set_option maxRecDepth 100000 in
set_option maxHeartbeats 8000000 in
theorem alike23 (hk : Dk w p K s) (hk' : Dk w q K' s') (hl : tellL s' = tellL s) (ho : s'.off = s.off) : Calls Try.prog 15 #[ptr p, ptr q] w fun e w' => e = .returned (.bool true) ∧ Turn no w w' := by
  have h1 := tells26 hk
  have h2 := fun W (t : Turn no w W) => tells26 (hk'.turn_no t)
  have h3 := fun W (t : Turn no w W) => on13 (hk.turn_no t)
  have h4 := fun W (t : Turn no w W) => on13 (hk'.turn_no t)
  rw [hl] at h2
  rw [ho] at h4
  have hcount : (tellL s).length ≤ 65536 := by
    obtain ⟨_, _, _, hP⟩ := hk
    unfold tellL
    have := hP.inv.count
    split <;> simp <;> omega
  generalize tellL s = l at *
  generalize s.off = OFF at *
  have H2 := shut h2
  have H3 := shut h3
  have H4 := shut h4
  clear h2 h3 h4 hk hk' hl ho
  unfold ptr at *
  go_enter Try.func15, Try.ntmps15
  go_wp2_with fail
  refine h1.mono ?_
  rintro e w1 ⟨v1, rfl, hT1, t1⟩
  have h2 := H2.out w1 t1
  obtain ⟨a1, c1, e1⟩ := hT1.slice
  have HT1 := shut hT1
  clear hT1 h1
  subst e1
  go_wp2_with fail
  refine h2.mono ?_
  rintro e w2 ⟨v2, rfl, hT2, t2⟩
  have t12 := t1.then_no t2
  have h3 := H3.out w2 t12
  have h4 := H4.out w2 t12
  obtain ⟨a2, c2, e2⟩ := hT2.slice
  have HT2 := shut hT2
  clear hT2 h2
  subst e2
  go_wp2_with fail
  refine h3.mono ?_
  rintro e w3 ⟨rfl, rfl⟩
  go_wp2_with fail
  refine h4.mono ?_
  rintro e w4 ⟨rfl, rfl⟩
  clear h3 h4
  cases OFF
  all_goals
    go_wp2_with fail
    go_loopw [9] (fun x wr => ∃ i : Nat, i ≤ l.length ∧ x = .int .i64 i ∧ Turn no w4 wr) (fun x _ => l.length - (intOf x).toNat)
    case atStart => exact ⟨0, Nat.zero_le _, rfl, Turn.refl _ _⟩
    case round =>
      obtain ⟨i, hi, rfl, T⟩ := hrel
      by_cases hlt : i < l.length
      · have hlt' : (i : Int) < (l.length : Int) := by omega
        obtain ⟨f, hf⟩ : ∃ f, l[i]? = some f := ⟨l[i], List.getElem?_eq_getElem hlt⟩
        obtain ⟨g1, d1, b1, n1, x1, e1, p1, p2, p3, p4⟩ := (HT1.out.turn_no (t2.then_no T)).at i f hf
        obtain ⟨g2, d2, b2, n2, x2, e2, q1, q2, q3, q4⟩ := (HT2.out.turn_no T).at i f hf
        have e1' : a1 = some ⟨g1, 0, none⟩ := by simp at e1; exact e1.1
        have e2' : a2 = some ⟨g2, 0, none⟩ := by simp at e2; exact e2.1
        subst e1' e2'
        have cv1 := fun n => bytes_text (p4.turn_no ((Turn.refl no wr).drewN n)).bs
        have cv2 := fun n => bytes_text (q4.turn_no ((Turn.refl no wr).drewN n)).bs
        clear p4 q4 e1 e2
        unfold strV at *
        go_wp2_with fail
        go_quiet (fail)
        go_wp2_with fail
        go_roundw
        case rel => exact ⟨i + 1, by omega, by go_num, T.drewN _⟩
        case measure => simp [intOf]; omega
      · have hlt' : ¬ (i : Int) < (l.length : Int) := by omega
        go_wp2_with fail
        go_ret
        exact ⟨rfl, t12.then_no T⟩
end
end Go.Proofs.Ytcdogciacchigab
