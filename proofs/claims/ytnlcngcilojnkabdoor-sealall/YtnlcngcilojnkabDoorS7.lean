/- Sign. -/
import Derived.Test.YtnlcngcilojnkabDoorS6
import Derived.Lib.ConvBytes
import Derived.Laws.ResultCell
namespace Go.Proofs.YtnlcngcilojnkabDoor
open Go.RowKit Go.Maps Go.MuLone
set_option linter.unusedVariables false

theorem foldl_bytes : ∀ (l : List UInt8) (s : ByteArray), (l.map fun b => (b.toNat : Int)).foldl (fun r n => r.push (UInt8.ofNat n.toNat)) s = ⟨s.data ++ l.toArray⟩
  | [], s => by simp
  | b :: l, s => by
    rw [List.map_cons, List.foldl_cons, foldl_bytes l]
    simp [ByteArray.push]

/-- A slice of bytes turned into a text. -/
theorem bytes_text {w : World} {v : Value} {bs : List UInt8} (hb : Bs w v bs) : (convert 29 9 v).run Tryd.prog w = .ok (.string ⟨bs.toArray⟩) w := by
  obtain ⟨a, c, hv⟩ := hb.slice
  subst hv
  rw [run_convert_bytes_string w 29 9 5 a bs.length c Tryd.underlying29 Tryd.underlying5 Tryd.underlying9]
  rcases hb with ⟨h, rfl⟩ | ⟨a', c', h, _, _, h3⟩
  · cases h
    simp [Conv.bytesToString]
    rfl
  · cases h
    have hl := run_loadCells_list (P := Tryd.prog) w a' (bs.map bv) (fun j u hu => by
      rw [List.getElem?_map] at hu
      cases hb : bs[j]? with
      | none => rw [hb] at hu; cases hu
      | some b => rw [hb] at hu; cases hu; exact h3 j b hb)
    have e1 : bs.map bv = (bs.map fun b => (b.toNat : Int)).map (Value.int .u8) := by rw [List.map_map]; rfl
    rw [List.length_map, e1] at hl
    rw [run_bytesToString w a' bs.length c (bs.map fun b => (b.toNat : Int)) hl, foldl_bytes]
    simp

theorem results_cell_row_tmp {P : Program} {fn : Func} {p u : Tmp} {ty : TypeId} (h : fn.results = #[.cell p ty, .tmp u]) (tmps : Array Value) (w : World) (g : Nat) (t : TypeId) (cs : Array Value) (fr : Nat × Nat) (d : TypeDesc)
    (hp : tmps.getD p undef = .pointer (some ⟨g, 0, none⟩)) (hg : w.heap[g]? = some (.cells cs t fr))
    (hu : P.underlying ty = some d) (hd : (match d with | .struct _ | .array _ _ => true | _ => false) = true) (hi : (P.info? ty).map (·.size) = some cs.size) :
    (results fn tmps).run P w = .ok (.tuple #[.agg cs, tmps.getD u undef]) w := by
  rw [results_cell_tmp h, hp]
  simp [asAddr, run_loadVar_row w g t ty cs fr d hg hu hd hi, Result.andThen]

theorem Bs.late {S : Nat → Prop} {w w' : World} {v : Value} {bs : List UInt8} (h : Bs w v bs) (t : Turn S w w') (hn : bs ≠ [] → ∀ g, v.ownBlock = some g → ¬ S g) : Bs w' v bs := by
  by_cases hB : bs = []
  · subst hB
    rcases h with ⟨e, _⟩ | ⟨A, C, e, h1, h2, h3⟩
    · exact Or.inl ⟨e, rfl⟩
    · exact Or.inr ⟨A, C, e, h1, h2, fun j u hu => by simp at hu⟩
  · exact h.turn t (hn hB)

set_option maxRecDepth 100000 in
set_option maxHeartbeats 4000000 in
theorem sign12 (w : World) (q p : Nat) (a : UInt64) (va : Value) (bs : List UInt8) (hq : Sg w q p a) (hp0 : w.cell? ⟨p, 0, none⟩ = some (.pointer (some ⟨p, 0, none⟩))) (hb : Bs w va bs) (hl : Laid1 w) (h2 : 2 ≤ w.heap.size) (hlen : bs.length ≤ 1048576)
    (S : Nat → Prop) (N : World → Prop) (hS : ∀ k, S k → k < w.heap.size ∧ k ≠ q ∧ k ≠ 1 ∧ (bs ≠ [] → va.ownBlock ≠ some k)) (hN : ∀ W W', N W → Turn (fun k => k = w.heap.size) W W' → N W')
    (hnote : ∀ W, Turn no w W → Calls Tryd.prog 52 #[.pointer (some ⟨p, 0, none⟩), recV a ⟨bs.toArray⟩] W fun e w' => e = .returned (.tuple #[]) ∧ Turn S W w' ∧ N w') :
    Calls Tryd.prog 41 #[.pointer (some ⟨q, 0, none⟩), va] w fun e w' => e = .returned (.tuple #[.agg (sealV a bs), .int .i64 0]) ∧ Turn S w w' ∧ N w' := by
  obtain ⟨z, hz, hzs⟩ : ∃ z : Array Value, z = #[.int .u8 0, .int .u8 0, .int .u8 0, .int .u8 0, .int .u8 0, .int .u8 0, .int .u8 0, .int .u8 0, .int .u8 0, .int .u8 0, .int .u8 0, .int .u8 0, .int .u8 0, .int .u8 0, .int .u8 0, .int .u8 0] ∧ z.size = 16 := ⟨_, rfl, rfl⟩
  have T0 : Turn no w (w.alloc (.cells z 31)) := (Turn.refl no w).alloc _
  have RZ := Row.new w z 31
  have hm29 := made29 (w.alloc (.cells z 31)) q ((Row.turn hq T0 (fun q => q)).cell 0 _ rfl)
  have hm25 := made25 (w.alloc (.cells z 31)) p (T0.keep hp0 (fun q => q))
  have Q0 : Row (w.alloc (.cells z 31)) q #[.pointer (some ⟨q, 0, none⟩), .pointer (some ⟨p, 0, none⟩), .int .u64 a.toNat] 102 := Row.turn hq T0 (fun q => q)
  have c1 : (w.alloc (.cells z 31)).cell? ⟨q, 1, none⟩ = some (.pointer (some ⟨p, 0, none⟩)) := Q0.cell 1 _ rfl
  have hb0 := hb.turn_no T0
  have hl0 := hl.turn T0 (fun q => q)
  have hsz0 := T0.size
  have hno := hnote
  obtain ⟨va', vc, hva⟩ := hb.slice
  subst hva
  have hle' : ¬ (1048576 : Int) < (bs.length : Int) := by omega
  go_enter Tryd.func41, Tryd.ntmps41
  go_wp2_with fail
  rw [← hz]
  clear hz
  have hg : ∃ d, (w.alloc (.cells z 31)).heap.size = w.heap.size + 1 + d := ⟨0, by simp⟩
  generalize w.alloc (.cells z 31) = w1 at *
  refine hm29.mono ?_
  rintro e w' ⟨rfl, rfl⟩
  go_wp2_with fail
  refine hm25.mono ?_
  rintro e w2 ⟨rfl, rfl⟩
  go_wp2_with fail
  have hSq : ∀ k, k = q → ¬ S k := fun k e h => (hS k h).2.1 e
  have Sb : ∀ W, Turn S w2 W → Bs W (.slice va' bs.length vc) bs := fun W hW => hb0.late hW (fun hne g hg h => (hS g h).2.2.2 hne hg)
  refine wp_region_held_drew (S := fun W => Turn S w2 W) (by kernel_rfl) (Turn.refl _ w2).drew (fun hHeld => ?_)
  refine' wpAnyH_take (i := 0) (v := .pointer (some ⟨q, 0, none⟩)) rfl (by kernel_rfl) (by kernel_rfl) (by kernel_rfl) (fun _ _ _ h => h) (Or.inl ⟨by rfl, fun W hW => ?y1⟩) hHeld ?r1
  · go_simp
  refine' wpAnyH_take (i := 1) (v := .pointer (some ⟨q, 0, none⟩)) rfl (by kernel_rfl) (by kernel_rfl) (by kernel_rfl) (fun _ _ _ h => h) (Or.inl ⟨by rfl, fun W hW => ?y2⟩) hHeld ?r2
  · go_simp
  refine' wpAnyH_take (i := 2) (v := .pointer (some ⟨q, 1, none⟩)) rfl (by kernel_rfl) (by kernel_rfl) (by kernel_rfl) (fun _ _ _ h => h) (Or.inl ⟨by rfl, fun W hW => ?y3⟩) hHeld ?r3
  · go_simp
  refine' wpAnyH_take (i := 3) (v := .pointer (some ⟨p, 0, none⟩)) rfl (by kernel_rfl) (by kernel_rfl) (by kernel_rfl) (fun _ _ _ h => h) (Or.inl ⟨by rfl, fun W hW => ?y4⟩) hHeld ?r4
  · have c : W.cell? ⟨q, 1, none⟩ = some (.pointer (some ⟨p, 0, none⟩)) := (Q0.turn hW (hSq q rfl)).cell 1 _ rfl
    go_simp
  refine' wpAnyH_take (i := 4) (v := .pointer (some ⟨q, 0, none⟩)) rfl (by kernel_rfl) (by kernel_rfl) (by kernel_rfl) (fun _ _ _ h => h) (Or.inl ⟨by rfl, fun W hW => ?y5⟩) hHeld ?r5
  · go_simp
  refine' wpAnyH_take (i := 5) (v := .pointer (some ⟨q, 0, none⟩)) rfl (by kernel_rfl) (by kernel_rfl) (by kernel_rfl) (fun _ _ _ h => h) (Or.inl ⟨by rfl, fun W hW => ?y6⟩) hHeld ?r6
  · go_simp
  refine' wpAnyH_take (i := 6) (v := .pointer (some ⟨q, 2, none⟩)) rfl (by kernel_rfl) (by kernel_rfl) (by kernel_rfl) (fun _ _ _ h => h) (Or.inl ⟨by rfl, fun W hW => ?y7⟩) hHeld ?r7
  · go_simp
  refine' wpAnyH_take (i := 7) (v := .int .u64 a.toNat) rfl (by kernel_rfl) (by kernel_rfl) (by kernel_rfl) (fun _ _ _ h => h) (Or.inl ⟨by rfl, fun W hW => ?y8⟩) hHeld ?r8
  · have c : W.cell? ⟨q, 2, none⟩ = some (.int .u64 a.toNat) := (Q0.turn hW (hSq q rfl)).cell 2 _ rfl
    go_simp
  refine' wpAnyH_take (i := 8) (v := .slice va' bs.length vc) rfl (by kernel_rfl) (by kernel_rfl) (by kernel_rfl) (fun _ _ _ h => h) (Or.inl ⟨by rfl, fun W hW => ?y9⟩) hHeld ?r9
  · go_simp
  refine' wpAnyH_take (i := 9) (v := .string ⟨bs.toArray⟩) rfl (by kernel_rfl) (by kernel_rfl) (by kernel_rfl) (fun _ _ _ h => h) (Or.inl ⟨by rfl, fun W hW => ?y10⟩) hHeld ?r10
  · have c := bytes_text (Sb W hW)
    go_simp
  refine' wpAnyH_take (i := 10) (v := .agg #[.int .u64 a.toNat, .string ⟨bs.toArray⟩]) rfl (by kernel_rfl) (by kernel_rfl) (by kernel_rfl) (fun _ _ _ h => h) (Or.inl ⟨by rfl, fun W hW => ?y11⟩) hHeld ?r11
  · go_simp
  refine wpAnyH_ready (rs := [11]) (by kernel_rfl) (by simp) ?_
  refine AllReadyH.cons rfl (fun K hK => ?_) AllReadyH.nil
  go_simp
  refine (hnote _ T0.drew).mono ?_
  rintro e w3 ⟨rfl, t3, n3⟩
  have t3' : Turn S w2 w3 := ((Turn.refl no w2).drew.of_no).trans t3 (fun _ _ q => q)
  go_wp2_with fail
  refine hK.out _ _ t3' (fun hHeld => ?_)
  clear hK
  refine wpAnyH_done (by kernel_rfl) ?_ _
  have Q3 := Q0.turn t3' (hSq q rfl)
  have c2 : w3.cell? ⟨q, 2, none⟩ = some (.int .u64 a.toNat) := Q3.cell 2 _ rfl
  have RZ3 := RZ.turn t3' (fun h => by have := (hS _ h).1; omega)
  have hse := sealOf31 w3 a _ bs (Sb w3 t3') (hl0.turn t3' (fun h => (hS _ h).2.2.1 rfl)) (by have := t3'.size; omega) (by omega)
  have hSo := sealV_one a bs
  have hSs := sealV_size a bs
  have hSi : (Tryd.prog.info? 31).map (·.size) = some (sealV a bs).size := by rw [hSs]; exact size33
  generalize hSV : sealV a bs = SV at *
  have T3 : Turn S w w3 := (T0.of_no).trans t3' (fun _ _ q => q)
  go_wp2_with fail
  refine hse.mono ?_
  rintro e w4 ⟨rfl, t4⟩
  have RZ4 := RZ3.turn t4 (fun q => q)
  go_wp2_with (refine wpList_store_row rfl 31 (.tmp 4) (.tmp 39) rfl w.heap.size SV rfl rfl 31 z RZ4 hSi (by omega) hSo ?_)
  have hz' : (w4.setRow w.heap.size SV).heap[w.heap.size]? = some (.cells SV 31 (0, 0)) := setRow_heap _ _ _ _ _ _ RZ4
  have hne : N (w4.setRow w.heap.size SV) := hN _ _ n3 ((t4.of_no).setRow _ _ (fun _ => rfl))
  refine bodyPost_ret (v := .tuple #[.agg SV, .int .i64 0]) ?_ rfl ⟨by rw [hSV], (T3.then_no t4).setRow _ _ (fun q => absurd q (by omega)), hne⟩
  exact results_cell_row_tmp (P := Tryd.prog) Tryd.results41 _ _ w.heap.size 31 SV (0, 0) _ rfl hz' Tryd.underlying31 rfl hSi
end Go.Proofs.YtnlcngcilojnkabDoor
