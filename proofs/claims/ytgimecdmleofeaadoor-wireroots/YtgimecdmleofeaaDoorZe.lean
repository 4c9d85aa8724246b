/- Texts in one. -/
import Derived.Test.YtgimecdmleofeaaDoorZa
import Derived.Test.YtgimecdmleofeaaDoorZd
/- Things held against themselves. -/
namespace Go.Proofs.YtgimecdmleofeaaDoor
open Go.RowKit
set_option linter.unusedVariables false

theorem eqFields_self (w : World) (d : Nat) (xs : Array Value) : ∀ fs : List Field, (∀ f ∈ fs, ∃ v, (part f.type xs f.offset).run Tryd.prog w = .ok v w ∧ (Op.equalIn d f.type v v).run Tryd.prog w = .ok true w) → (Op.eqFields d xs xs fs).run Tryd.prog w = .ok true w
  | [], _ => by simp [Op.eqFields]
  | f :: fs, h => by
    obtain ⟨v, h1, h2⟩ := h f (by simp)
    have ih := eqFields_self w d xs fs (fun g hg => h g (by simp [hg]))
    simp only [Op.eqFields, Sem.run_bind, Sem.run_ite]
    split
    · simp only [h1, h2, Result.andThen_ok, Bool.not_true, Bool.false_eq_true, if_false]
      exact ih
    · exact ih
theorem cell_part {t : TypeId} (w : World) {xs : Array Value} {o : Nat} {v : Value} (ha : (isAgg t).run Tryd.prog w = .ok false w) (h : xs[o]? = some v) : (part t xs o).run Tryd.prog w = .ok v w := by
  simp [part, ha, h]
theorem agg_part {t : TypeId} (w : World) {xs ys : Array Value} {o n : Nat} (ha : (isAgg t).run Tryd.prog w = .ok true w) (hs : (Tryd.prog.info? t).map (·.size) = some n) (h : xs.extract o (o + n) = ys) : (part t xs o).run Tryd.prog w = .ok (.agg ys) w := by
  cases hq : Tryd.prog.info? t with
  | none => simp [hq] at hs
  | some i =>
    have hi : i.size = n := by simpa [hq] using hs
    simp [part, ha, sizeOf, typeInfo, hq, hi, h]
theorem ext_mid {l A B C : List Value} {o n : Nat} (hl : l = A ++ (B ++ C)) (ho : A.length = o) (hn : B.length = n) : l.toArray.extract o (o + n) = B.toArray := by
  subst hl ho hn
  apply Array.ext'
  simp only [Array.toList_extract, List.extract_eq_take_drop]
  simp
theorem at_mid {l A C : List Value} {v : Value} {o : Nat} (hl : l = A ++ (v :: C)) (ho : A.length = o) : l.toArray[o]? = some v := by
  subst hl ho
  simp
theorem sz16 : (Tryd.prog.info? 25).map (·.size) = some 16 := by kernel_rfl
theorem bvl (X : List UInt8) {n : Nat} (h : X.length = n) : (X.map bv).length = n := by simpa using h
theorem fields108 : (Tryd.prog.fieldsOf 108).toList.map (fun f => (f.type, f.offset)) = [(3, 0), (22, 1), (25, 2)] := by kernel_rfl
theorem eq108 (w : World) (d : Nat) (m : Mk) (h : m.ok) : (Op.equalIn (d + 3) 108 (.agg (mkL m).toArray) (.agg (mkL m).toArray)).run Tryd.prog w = .ok true w := by
  rw [run_equalIn_struct w (d + 2) 108 _ _ (by kernel_rfl) (by kernel_rfl)]
  refine eqFields_self w (d + 2) _ _ (fun f hf => ?_)
  have hm : (f.type, f.offset) ∈ [(3, 0), (22, 1), (25, 2)] := by
    rw [← fields108]
    exact List.mem_map.2 ⟨f, hf, rfl⟩
  generalize f.type = t at *
  generalize f.offset = o at *
  simp only [List.mem_cons, Prod.mk.injEq, List.not_mem_nil, or_false] at hm
  rcases hm with ⟨rfl, rfl⟩ | ⟨rfl, rfl⟩ | ⟨rfl, rfl⟩
  · exact ⟨_, cell_part w (v := .int .i64 m.ix) (by kernel_rfl) (by simp [mkL]), by rw [run_equalIn_int w (d + 1) 3 .i64 .i64 _ _ Tryd.underlying3]; simp⟩
  · exact ⟨_, cell_part w (v := .int .u64 m.tm) (by kernel_rfl) (by simp [mkL]), by rw [run_equalIn_int w (d + 1) 22 .u64 .u64 _ _ Tryd.underlying22]; simp⟩
  · exact ⟨_, agg_part w (by kernel_rfl) sz16 (ext_mid (A := [.int .i64 m.ix, .int .u64 m.tm]) (B := m.se.map bv) (C := []) (by simp [mkL]) rfl (bvl _ h.2.2)), by rw [eqIn27 w d _ _ h.2.2 h.2.2]; simp⟩
theorem fields27 : (Tryd.prog.fieldsOf 27).toList.map (fun f => (f.type, f.offset)) = [(3, 0), (23, 1), (23, 2), (22, 3), (22, 4), (22, 5), (25, 6)] := by kernel_rfl
theorem eq27 (w : World) (d : Nat) (x : Tx) (h : x.ok) : (Op.equalIn (d + 3) 27 (.agg x.cs.toArray) (.agg x.cs.toArray)).run Tryd.prog w = .ok true w := by
  rw [run_equalIn_struct w (d + 2) 27 _ _ (by kernel_rfl) (by kernel_rfl)]
  refine eqFields_self w (d + 2) _ _ (fun f hf => ?_)
  have hm : (f.type, f.offset) ∈ [(3, 0), (23, 1), (23, 2), (22, 3), (22, 4), (22, 5), (25, 6)] := by
    rw [← fields27]
    exact List.mem_map.2 ⟨f, hf, rfl⟩
  generalize f.type = t at *
  generalize f.offset = o at *
  simp only [List.mem_cons, Prod.mk.injEq, List.not_mem_nil, or_false] at hm
  rcases hm with ⟨rfl, rfl⟩ | ⟨rfl, rfl⟩ | ⟨rfl, rfl⟩ | ⟨rfl, rfl⟩ | ⟨rfl, rfl⟩ | ⟨rfl, rfl⟩ | ⟨rfl, rfl⟩
  · exact ⟨_, cell_part w (v := .int .i64 x.k) (by kernel_rfl) (by simp [Tx.cs]), by rw [run_equalIn_int w (d + 1) 3 .i64 .i64 _ _ Tryd.underlying3]; simp⟩
  · exact ⟨_, cell_part w (v := .int .u64 x.fr) (by kernel_rfl) (by simp [Tx.cs]), by rw [run_equalIn_int w (d + 1) 23 .u64 .u64 _ _ Tryd.underlying23]; simp⟩
  · exact ⟨_, cell_part w (v := .int .u64 x.to) (by kernel_rfl) (by simp [Tx.cs]), by rw [run_equalIn_int w (d + 1) 23 .u64 .u64 _ _ Tryd.underlying23]; simp⟩
  · exact ⟨_, cell_part w (v := .int .u64 x.am) (by kernel_rfl) (by simp [Tx.cs]), by rw [run_equalIn_int w (d + 1) 22 .u64 .u64 _ _ Tryd.underlying22]; simp⟩
  · exact ⟨_, cell_part w (v := .int .u64 x.fe) (by kernel_rfl) (by simp [Tx.cs]), by rw [run_equalIn_int w (d + 1) 22 .u64 .u64 _ _ Tryd.underlying22]; simp⟩
  · exact ⟨_, cell_part w (v := .int .u64 x.no) (by kernel_rfl) (by simp [Tx.cs]), by rw [run_equalIn_int w (d + 1) 22 .u64 .u64 _ _ Tryd.underlying22]; simp⟩
  · exact ⟨_, agg_part w (by kernel_rfl) sz16 (ext_mid (A := [.int .i64 x.k, .int .u64 x.fr, .int .u64 x.to, .int .u64 x.am, .int .u64 x.fe, .int .u64 x.no]) (B := x.se.map bv) (C := []) (by simp [Tx.cs]) rfl (bvl _ h.1)), by rw [eqIn27 w d _ _ h.1 h.1]; simp⟩
theorem fields78 : (Tryd.prog.fieldsOf 78).toList.map (fun f => (f.type, f.offset)) = [(3, 0), (22, 1), (3, 2), (29, 3), (22, 35), (23, 36), (25, 37)] := by kernel_rfl
theorem eq78 (w : World) (d : Nat) (v : Vt) (h : v.ok) : (Op.equalIn (d + 3) 78 (.agg v.cs.toArray) (.agg v.cs.toArray)).run Tryd.prog w = .ok true w := by
  rw [run_equalIn_struct w (d + 2) 78 _ _ (by kernel_rfl) (by kernel_rfl)]
  refine eqFields_self w (d + 2) _ _ (fun f hf => ?_)
  have hm : (f.type, f.offset) ∈ [(3, 0), (22, 1), (3, 2), (29, 3), (22, 35), (23, 36), (25, 37)] := by
    rw [← fields78]
    exact List.mem_map.2 ⟨f, hf, rfl⟩
  generalize f.type = t at *
  generalize f.offset = o at *
  simp only [List.mem_cons, Prod.mk.injEq, List.not_mem_nil, or_false] at hm
  rcases hm with ⟨rfl, rfl⟩ | ⟨rfl, rfl⟩ | ⟨rfl, rfl⟩ | ⟨rfl, rfl⟩ | ⟨rfl, rfl⟩ | ⟨rfl, rfl⟩ | ⟨rfl, rfl⟩
  · exact ⟨_, cell_part w (v := .int .i64 v.k) (by kernel_rfl) (v.c0), by rw [run_equalIn_int w (d + 1) 3 .i64 .i64 _ _ Tryd.underlying3]; simp⟩
  · exact ⟨_, cell_part w (v := .int .u64 v.h) (by kernel_rfl) (v.c1), by rw [run_equalIn_int w (d + 1) 22 .u64 .u64 _ _ Tryd.underlying22]; simp⟩
  · exact ⟨_, cell_part w (v := .int .i64 v.r) (by kernel_rfl) (v.c2), by rw [run_equalIn_int w (d + 1) 3 .i64 .i64 _ _ Tryd.underlying3]; simp⟩
  · exact ⟨_, agg_part w (by kernel_rfl) size24 (ext_mid (A := [.int .i64 v.k, .int .u64 v.h, .int .i64 v.r]) (B := v.id.map bv) (C := .int .u64 v.t :: .int .u64 v.f :: v.se.map bv) (by simp [Vt.cs]) rfl (bvl _ h.1)), by rw [eqIn24 w d _ _ h.1 h.1]; simp⟩
  · exact ⟨_, cell_part w (v := .int .u64 v.t) (by kernel_rfl) (Vt.c35 h), by rw [run_equalIn_int w (d + 1) 22 .u64 .u64 _ _ Tryd.underlying22]; simp⟩
  · exact ⟨_, cell_part w (v := .int .u64 v.f) (by kernel_rfl) (Vt.c36 h), by rw [run_equalIn_int w (d + 1) 23 .u64 .u64 _ _ Tryd.underlying23]; simp⟩
  · exact ⟨_, agg_part w (by kernel_rfl) sz16 (ext_mid (A := .int .i64 v.k :: .int .u64 v.h :: .int .i64 v.r :: (v.id.map bv ++ [.int .u64 v.t, .int .u64 v.f])) (B := v.se.map bv) (C := []) (by simp [Vt.cs]) (by simp [h.1]) (bvl _ h.2)), by rw [eqIn27 w d _ _ h.2 h.2]; simp⟩
theorem fields80 : (Tryd.prog.fieldsOf 80).toList.map (fun f => (f.type, f.offset)) = [(78, 0), (78, 53)] := by kernel_rfl
theorem eq80 (w : World) (d : Nat) (x : Ev) (h : x.fits) : (Op.equalIn (d + 4) 80 (.agg x.cs.toArray) (.agg x.cs.toArray)).run Tryd.prog w = .ok true w := by
  rw [run_equalIn_struct w (d + 3) 80 _ _ (by kernel_rfl) (by kernel_rfl)]
  refine eqFields_self w (d + 3) _ _ (fun f hf => ?_)
  have hm : (f.type, f.offset) ∈ [(78, 0), (78, 53)] := by
    rw [← fields80]
    exact List.mem_map.2 ⟨f, hf, rfl⟩
  generalize f.type = t at *
  generalize f.offset = o at *
  simp only [List.mem_cons, Prod.mk.injEq, List.not_mem_nil, or_false] at hm
  rcases hm with ⟨rfl, rfl⟩ | ⟨rfl, rfl⟩
  · exact ⟨_, agg_part w (by kernel_rfl) size29 (ext_mid (A := []) (B := x.a.cs) (C := x.b.cs) (by simp [Ev.cs]) rfl (x.a.len h.1.1)), eq78 w d x.a h.1.1⟩
  · exact ⟨_, agg_part w (by kernel_rfl) size29 (ext_mid (A := x.a.cs) (B := x.b.cs) (C := []) (by simp [Ev.cs]) (x.a.len h.1.1) (x.b.len h.2.1)), eq78 w d x.b h.2.1⟩
theorem fields31 : (Tryd.prog.fieldsOf 31).toList.map (fun f => (f.type, f.offset)) = [(9, 0), (22, 1), (22, 2), (29, 3), (29, 35), (29, 67), (29, 99), (29, 131), (29, 163), (29, 195), (23, 227)] := by kernel_rfl
theorem eq31 (w : World) (d : Nat) (x : Hd) (h : x.ok) : (Op.equalIn (d + 3) 31 (.agg x.cs.toArray) (.agg x.cs.toArray)).run Tryd.prog w = .ok true w := by
  obtain ⟨_, _, _, _, q0, q1, q2, q3, q4, q5, q6⟩ := h
  rw [run_equalIn_struct w (d + 2) 31 _ _ (by kernel_rfl) (by kernel_rfl)]
  refine eqFields_self w (d + 2) _ _ (fun f hf => ?_)
  have hm : (f.type, f.offset) ∈ [(9, 0), (22, 1), (22, 2), (29, 3), (29, 35), (29, 67), (29, 99), (29, 131), (29, 163), (29, 195), (23, 227)] := by
    rw [← fields31]
    exact List.mem_map.2 ⟨f, hf, rfl⟩
  generalize f.type = t at *
  generalize f.offset = o at *
  simp only [List.mem_cons, Prod.mk.injEq, List.not_mem_nil, or_false] at hm
  rcases hm with ⟨rfl, rfl⟩ | ⟨rfl, rfl⟩ | ⟨rfl, rfl⟩ | ⟨rfl, rfl⟩ | ⟨rfl, rfl⟩ | ⟨rfl, rfl⟩ | ⟨rfl, rfl⟩ | ⟨rfl, rfl⟩ | ⟨rfl, rfl⟩ | ⟨rfl, rfl⟩ | ⟨rfl, rfl⟩
  · exact ⟨_, cell_part w (v := .string x.ch) (by kernel_rfl) (by simp [Hd.cs]), by rw [run_equalIn_string w (d + 1) 9 _ _ Tryd.underlying9]; simp⟩
  · exact ⟨_, cell_part w (v := .int .u64 x.h) (by kernel_rfl) (by simp [Hd.cs]), by rw [run_equalIn_int w (d + 1) 22 .u64 .u64 _ _ Tryd.underlying22]; simp⟩
  · exact ⟨_, cell_part w (v := .int .u64 x.t) (by kernel_rfl) (by simp [Hd.cs]), by rw [run_equalIn_int w (d + 1) 22 .u64 .u64 _ _ Tryd.underlying22]; simp⟩
  · exact ⟨_, agg_part w (by kernel_rfl) size24 (ext_mid (A := [.string x.ch, .int .u64 x.h, .int .u64 x.t]) (B := x.a0.map bv) (C := (x.a1.map bv ++ x.a2.map bv ++ x.a3.map bv ++ x.a4.map bv ++ x.a5.map bv ++ x.a6.map bv ++ [.int .u64 x.pr])) (by simp [Hd.cs]) (by simp [*]) (bvl _ q0)), by rw [eqIn24 w d _ _ q0 q0]; simp⟩
  · exact ⟨_, agg_part w (by kernel_rfl) size24 (ext_mid (A := [.string x.ch, .int .u64 x.h, .int .u64 x.t] ++ x.a0.map bv) (B := x.a1.map bv) (C := (x.a2.map bv ++ x.a3.map bv ++ x.a4.map bv ++ x.a5.map bv ++ x.a6.map bv ++ [.int .u64 x.pr])) (by simp [Hd.cs]) (by simp [*]) (bvl _ q1)), by rw [eqIn24 w d _ _ q1 q1]; simp⟩
  · exact ⟨_, agg_part w (by kernel_rfl) size24 (ext_mid (A := [.string x.ch, .int .u64 x.h, .int .u64 x.t] ++ x.a0.map bv ++ x.a1.map bv) (B := x.a2.map bv) (C := (x.a3.map bv ++ x.a4.map bv ++ x.a5.map bv ++ x.a6.map bv ++ [.int .u64 x.pr])) (by simp [Hd.cs]) (by simp [*]) (bvl _ q2)), by rw [eqIn24 w d _ _ q2 q2]; simp⟩
  · exact ⟨_, agg_part w (by kernel_rfl) size24 (ext_mid (A := [.string x.ch, .int .u64 x.h, .int .u64 x.t] ++ x.a0.map bv ++ x.a1.map bv ++ x.a2.map bv) (B := x.a3.map bv) (C := (x.a4.map bv ++ x.a5.map bv ++ x.a6.map bv ++ [.int .u64 x.pr])) (by simp [Hd.cs]) (by simp [*]) (bvl _ q3)), by rw [eqIn24 w d _ _ q3 q3]; simp⟩
  · exact ⟨_, agg_part w (by kernel_rfl) size24 (ext_mid (A := [.string x.ch, .int .u64 x.h, .int .u64 x.t] ++ x.a0.map bv ++ x.a1.map bv ++ x.a2.map bv ++ x.a3.map bv) (B := x.a4.map bv) (C := (x.a5.map bv ++ x.a6.map bv ++ [.int .u64 x.pr])) (by simp [Hd.cs]) (by simp [*]) (bvl _ q4)), by rw [eqIn24 w d _ _ q4 q4]; simp⟩
  · exact ⟨_, agg_part w (by kernel_rfl) size24 (ext_mid (A := [.string x.ch, .int .u64 x.h, .int .u64 x.t] ++ x.a0.map bv ++ x.a1.map bv ++ x.a2.map bv ++ x.a3.map bv ++ x.a4.map bv) (B := x.a5.map bv) (C := (x.a6.map bv ++ [.int .u64 x.pr])) (by simp [Hd.cs]) (by simp [*]) (bvl _ q5)), by rw [eqIn24 w d _ _ q5 q5]; simp⟩
  · exact ⟨_, agg_part w (by kernel_rfl) size24 (ext_mid (A := [.string x.ch, .int .u64 x.h, .int .u64 x.t] ++ x.a0.map bv ++ x.a1.map bv ++ x.a2.map bv ++ x.a3.map bv ++ x.a4.map bv ++ x.a5.map bv) (B := x.a6.map bv) (C := ([.int .u64 x.pr])) (by simp [Hd.cs]) (by simp [*]) (bvl _ q6)), by rw [eqIn24 w d _ _ q6 q6]; simp⟩
  · exact ⟨_, cell_part w (v := .int .u64 x.pr) (by kernel_rfl) (at_mid (A := [.string x.ch, .int .u64 x.h, .int .u64 x.t] ++ x.a0.map bv ++ x.a1.map bv ++ x.a2.map bv ++ x.a3.map bv ++ x.a4.map bv ++ x.a5.map bv ++ x.a6.map bv) (C := []) (by simp [Hd.cs]) (by simp [*])), by rw [run_equalIn_int w (d + 1) 23 .u64 .u64 _ _ Tryd.underlying23]; simp⟩
end Go.Proofs.YtgimecdmleofeaaDoor

/- sameCert: two certificates that hold the same. -/
namespace Go.Proofs.YtgimecdmleofeaaDoor
open Go.RowKit
set_option linter.unusedVariables false

/-- What is asked of a list whose elements are held against each other. -/
def Alike (t : TypeId) (L : List El) : Prop := ∀ x ∈ L, (Tryd.prog.info? t).map (·.size) = some x.cs.length ∧ ∀ W, (Op.equalIn 10000 t (.agg x.cs.toArray) (.agg x.cs.toArray)).run Tryd.prog W = .ok true W
set_option maxRecDepth 100000 in
set_option maxHeartbeats 8000000 in
theorem sameC47 (w : World) (h : Nat) (r : Int) (id : List UInt8) (hid : id.length = 32) (a a' : Option Addr) (cap cap' : Nat) (L : List El) (hv : TsAt w 18 a cap L) (hu : TsAt w 18 a' cap' L) (hL : Alike 108 L) : Calls Tryd.prog 47 #[.agg (ctL h r id (.slice a L.length cap)).toArray, .agg (ctL h r id (.slice a' L.length cap')).toArray] w fun e w' => e = .returned (.bool true) ∧ Turn no w w' := by
  obtain ⟨n, hn⟩ : ∃ n, Hid (L.length = n) := ⟨_, rfl⟩
  have hn' : L.length = n := hn.out
  have hle : n ≤ 9223372036854775807 := by have := hv.le; have := hv.cap; simp only [maxLen] at this; omega
  rw [hn']
  obtain ⟨w0, hw0⟩ : ∃ w0, (w.alloc (.cells (ctL h r id (.slice a n cap)).toArray 34)).alloc (.cells (ctL h r id (.slice a' n cap')).toArray 34) = w0 := ⟨_, rfl⟩
  have T0 : Turn no w w0 := by rw [← hw0]; exact ((Turn.refl no w).alloc _).alloc _
  have B0 : Row w0 w.heap.size (ctL h r id (.slice a n cap)).toArray 34 := by rw [← hw0]; exact (Row.new w _ 34).alloc _
  have B1 : Row w0 (w.heap.size + 1) (ctL h r id (.slice a' n cap')).toArray 34 := by rw [← hw0]; exact Row.newAt _ _ _ _ (by simp)
  have hi27 : (Tryd.prog.info? 29).map (·.size) = some (id.map bv).length := by rw [List.length_map, hid]; exact size24
  have hE : ∀ W, (Op.equalIn 10000 29 (.agg (id.map bv).toArray) (.agg (id.map bv).toArray)).run Tryd.prog W = .ok true W := fun W => by rw [eqIn24 W 9998 id id hid hid]; simp
  have HY : Shut ((∀ W, Turn no w0 W → W.cell? ⟨w.heap.size, 34, none⟩ = some (.slice a n cap) ∧ W.cell? ⟨w.heap.size + 1, 34, none⟩ = some (.slice a' n cap')) ∧ TsAt w 18 a cap L ∧ TsAt w 18 a' cap' L ∧ ∀ k, k < n → ∃ m, L[k]? = some m) := ⟨fun W t => ⟨t.keep (B0.cell 34 _ (ctL_34 h r id hid _)) (fun q => q), t.keep (B1.cell 34 _ (ctL_34 h r id hid _)) (fun q => q)⟩, hv, hu, fun k q => ⟨L[k]'(by rw [hn']; exact q), List.getElem?_eq_getElem _⟩⟩
  have HT0 := shut T0
  have HL := shut hL
  have x0 := B0.cell 0 _ (ctL_0 h r id _)
  have x1 := B0.cell 1 _ (ctL_1 h r id _)
  have x2 : w0.rangeAt w.heap.size 2 (id.map bv) := fun j u hu => B0.cell (2 + j) _ (ctL_id h r id _ j u hu)
  have y0 := B1.cell 0 _ (ctL_0 h r id _)
  have y1 := B1.cell 1 _ (ctL_1 h r id _)
  have y2 : w0.rangeAt (w.heap.size + 1) 2 (id.map bv) := fun j u hu => B1.cell (2 + j) _ (ctL_id h r id _ j u hu)
  obtain ⟨x3, y3⟩ := HY.out.1 w0 (Turn.refl no w0)
  clear hv hu B0 B1 T0 hn' hid hL
  generalize (ctL h r id (.slice a n cap)).toArray = C0 at *
  generalize (ctL h r id (.slice a' n cap')).toArray = C1 at *
  generalize id.map bv = ib at *
  go_enter Tryd.func47, Tryd.ntmps47
  go_upto_region 1 with fail
  try rw [hw0]
  go_wp2_with (first | (guard_target =~ wpList _ _ _ ({ dst := some 20, op := Op.load 29 _, .. } :: _) _ _; refine wpList_load_midG (by rfl) 29 (.tmp 19) rfl w.heap.size 2 rfl ib _ x2 Tryd.underlying29 rfl hi27 ?_) | (guard_target =~ wpList _ _ _ ({ dst := _, op := Op.load 29 _, .. } :: _) _ _; refine wpList_load_midG (by rfl) 29 (.tmp 21) rfl (w.heap.size + 1) 2 rfl ib _ y2 Tryd.underlying29 rfl hi27 ?_))
  clear x0 x1 x2 x3 y0 y1 y2 y3 hw0 hE hi27
  go_loopw [5] (fun c wr => ∃ k : Nat, k ≤ n ∧ c = .int .i64 k ∧ Turn no w0 wr) (fun c _ => n - (intOf c).toNat)
  case atStart => exact ⟨0, by omega, rfl, Turn.refl _ _⟩
  case round =>
    obtain ⟨k, hk, rfl, T⟩ := hrel
    obtain ⟨y0, y1⟩ := HY.out.1 wr T
    by_cases hlt : k < n
    · obtain ⟨m, hm⟩ : ∃ m, L[k]? = some m := HY.out.2.2.2 k hlt
      obtain ⟨b, off, rfl, c0⟩ := (HY.out.2.1.turn_no (HT0.out.then_no T)).cells k m hm
      obtain ⟨b', off', rfl, d0⟩ := (HY.out.2.2.1.turn_no (HT0.out.then_no T)).cells k m hm
      have hlt' : (k : Int) < (n : Int) := by omega
      obtain ⟨hs, hE⟩ := HL.out m (List.mem_of_getElem? hm)
      clear hm
      generalize m.cs = X at *
      have HY2 : Shut (∀ W, Turn no wr W → W.cell? ⟨w.heap.size, 34, none⟩ = some (.slice (some ⟨b, off, none⟩) n cap) ∧ W.cell? ⟨w.heap.size + 1, 34, none⟩ = some (.slice (some ⟨b', off', none⟩) n cap')) := ⟨fun W t => HY.out.1 W (T.then_no t)⟩
      have HC : Shut (∀ W, Turn no wr W → W.rangeAt b (off + k * 18) X ∧ W.rangeAt b' (off' + k * 18) X) := ⟨fun W t => ⟨fun i v hi => t.keep (c0 i v hi) (fun q => q), fun i v hi => t.keep (d0 i v hi) (fun q => q)⟩⟩
      clear c0 d0
      go_wp2_with fail
      clear y0 y1
      refine wp_region_held_drew (S := fun W => Turn no wr W) (by kernel_rfl) (Turn.refl no wr).drew (fun hHeld => ?_)
      refine' wpAnyH_take (i := 0) (v := .pointer (some ⟨w.heap.size, 34, none⟩)) rfl (by kernel_rfl) (by kernel_rfl) (by kernel_rfl) (fun _ _ _ h => h) (Or.inl ⟨by kernel_rfl, fun W hW => ?y1⟩) hHeld ?r1
      · go_simp
      refine' wpAnyH_take (i := 1) (v := .slice (some ⟨b, off, none⟩) n cap) rfl (by kernel_rfl) (by kernel_rfl) (by kernel_rfl) (fun _ _ _ h => h) (Or.inl ⟨by kernel_rfl, fun W hW => ?y2⟩) hHeld ?r2
      · obtain ⟨y0, y1⟩ := HY2.out W hW
        go_simp
      refine' wpAnyH_take (i := 2) (v := .int .i64 k) rfl (by kernel_rfl) (by kernel_rfl) (by kernel_rfl) (fun _ _ _ h => h) (Or.inl ⟨by kernel_rfl, fun W hW => ?y3⟩) hHeld ?r3
      · go_simp
      refine' wpAnyH_take (i := 3) (v := .pointer (some ⟨b, off + k * 18, none⟩)) rfl (by kernel_rfl) (by kernel_rfl) (by kernel_rfl) (fun _ _ _ h => h) (Or.inl ⟨by kernel_rfl, fun W hW => ?y4⟩) hHeld ?r4
      · go_simp
      refine' wpAnyH_take (i := 4) (v := .agg X.toArray) rfl (by kernel_rfl) (by kernel_rfl) (by kernel_rfl) (fun _ _ _ h => h) (yieldsIf_load_mid (by kernel_rfl) 108 (.tmp 44) rfl b (off + k * 18) (by kernel_rfl) X _ (fun W h => (HC.out W h).1) Tryd.underlying108 rfl hs) hHeld ?s5a
      refine' wpAnyH_take (i := 5) (v := .pointer (some ⟨w.heap.size + 1, 34, none⟩)) rfl (by kernel_rfl) (by kernel_rfl) (by kernel_rfl) (fun _ _ _ h => h) (Or.inl ⟨by kernel_rfl, fun W hW => ?y5⟩) hHeld ?r5
      · go_simp
      refine' wpAnyH_take (i := 6) (v := .slice (some ⟨b', off', none⟩) n cap') rfl (by kernel_rfl) (by kernel_rfl) (by kernel_rfl) (fun _ _ _ h => h) (Or.inl ⟨by kernel_rfl, fun W hW => ?y6⟩) hHeld ?r6
      · obtain ⟨y0, y1⟩ := HY2.out W hW
        go_simp
      refine' wpAnyH_take (i := 7) (v := .int .i64 k) rfl (by kernel_rfl) (by kernel_rfl) (by kernel_rfl) (fun _ _ _ h => h) (Or.inl ⟨by kernel_rfl, fun W hW => ?y7⟩) hHeld ?r7
      · go_simp
      refine' wpAnyH_take (i := 8) (v := .pointer (some ⟨b', off' + k * 18, none⟩)) rfl (by kernel_rfl) (by kernel_rfl) (by kernel_rfl) (fun _ _ _ h => h) (Or.inl ⟨by kernel_rfl, fun W hW => ?y8⟩) hHeld ?r8
      · go_simp
      refine' wpAnyH_take (i := 9) (v := .agg X.toArray) rfl (by kernel_rfl) (by kernel_rfl) (by kernel_rfl) (fun _ _ _ h => h) (yieldsIf_load_mid (by kernel_rfl) 108 (.tmp 49) rfl b' (off' + k * 18) (by kernel_rfl) X _ (fun W h => (HC.out W h).2) Tryd.underlying108 rfl hs) hHeld ?s5b
      refine' wpAnyH_take (i := 10) (v := .bool false) rfl (by kernel_rfl) (by kernel_rfl) (by kernel_rfl) (fun _ _ _ h => h) (Or.inl ⟨by kernel_rfl, fun W hW => ?y9⟩) hHeld ?r9
      · go_simp
      refine wpAnyH_done (by kernel_rfl) ?_ _
      go_simp
      have HN := shut (T.then_no hHeld)
      clear hHeld HC HY2 hE
      go_wp2_with fail
      go_roundw
      case rel => exact ⟨k + 1, by omega, by go_num, HN.out⟩
      case measure => simp [intOf]; omega
    · have hkn : k = n := by omega
      have hlt' : ¬ (k : Int) < (n : Int) := by omega
      subst hkn
      go_wp2_with fail
      go_ret
      exact ⟨rfl, HT0.out.then_no T⟩
end Go.Proofs.YtgimecdmleofeaaDoor

/- sameBlock: two blocks that hold the same. -/
namespace Go.Proofs.YtgimecdmleofeaaDoor
open Go.RowKit
set_option linter.unusedVariables false

/-- A block's cells: a header's, two lists, a certificate's. -/
def bkL (D : List Value) (vt ve : Value) (C : List Value) : List Value := D ++ (vt :: ve :: C)
theorem bkL_len {D C : List Value} (hD : D.length = 228) (hC : C.length = 35) (vt ve : Value) : (bkL D vt ve C).length = 265 := by simp [bkL, hD, hC]
theorem bkL_228 {D C : List Value} (hD : D.length = 228) (vt ve : Value) : (bkL D vt ve C).toArray[(228 : Nat)]? = some vt := by
  rw [List.getElem?_toArray, bkL, List.getElem?_append_right (by omega), hD]
  rfl
theorem bkL_229 {D C : List Value} (hD : D.length = 228) (vt ve : Value) : (bkL D vt ve C).toArray[(229 : Nat)]? = some ve := by
  rw [List.getElem?_toArray, bkL, List.getElem?_append_right (by omega), hD]
  rfl
theorem bkL_D {D C : List Value} (vt ve : Value) (j : Nat) (u : Value) (hu : D[j]? = some u) : (bkL D vt ve C).toArray[0 + j]? = some u := by
  rw [List.getElem?_toArray, Nat.zero_add, bkL, List.getElem?_append_left (List.getElem?_eq_some_iff.1 hu).1]
  exact hu
theorem bkL_C {D C : List Value} (hD : D.length = 228) (vt ve : Value) (j : Nat) (u : Value) (hu : C[j]? = some u) : (bkL D vt ve C).toArray[230 + j]? = some u := by
  rw [List.getElem?_toArray, bkL, List.getElem?_append_right (by omega), hD, show 230 + j - 228 = j + 1 + 1 by omega]
  exact hu
set_option maxRecDepth 100000 in
set_option maxHeartbeats 8000000 in
theorem sameB17 (w : World) (D : List Value) (hD : D.length = 228) (heq : ∀ W, (Op.equalIn 10000 31 (.agg D.toArray) (.agg D.toArray)).run Tryd.prog W = .ok true W) (h : Nat) (r : Int) (id : List UInt8) (hid : id.length = 32)
    (a1 a1' : Option Addr) (c1 c1' : Nat) (L1 : List El) (h1 : TsAt w 22 a1 c1 L1) (h1' : TsAt w 22 a1' c1' L1) (A1 : Alike 27 L1)
    (a2 a2' : Option Addr) (c2 c2' : Nat) (L2 : List El) (h2 : TsAt w 106 a2 c2 L2) (h2' : TsAt w 106 a2' c2' L2) (A2 : Alike 80 L2)
    (a3 a3' : Option Addr) (c3 c3' : Nat) (L3 : List El) (h3 : TsAt w 18 a3 c3 L3) (h3' : TsAt w 18 a3' c3' L3) (A3 : Alike 108 L3) :
    Calls Tryd.prog 17 #[.agg (bkL D (.slice a1 L1.length c1) (.slice a2 L2.length c2) (ctL h r id (.slice a3 L3.length c3))).toArray, .agg (bkL D (.slice a1' L1.length c1') (.slice a2' L2.length c2') (ctL h r id (.slice a3' L3.length c3'))).toArray] w fun e w' => e = .returned (.bool true) ∧ Turn no w w' := by
  obtain ⟨n, hn⟩ : ∃ n, Hid (L1.length = n) := ⟨_, rfl⟩
  obtain ⟨p, hp⟩ : ∃ p, Hid (L2.length = p) := ⟨_, rfl⟩
  have hn' : L1.length = n := hn.out
  have hp' : L2.length = p := hp.out
  have hle : n ≤ 9223372036854775807 := by have := h1.le; have := h1.cap; simp only [maxLen] at this; omega
  have hlp : p ≤ 9223372036854775807 := by have := h2.le; have := h2.cap; simp only [maxLen] at this; omega
  rw [hn', hp']
  have hC := ctL_len h r id hid (.slice a3 L3.length c3)
  have hC' := ctL_len h r id hid (.slice a3' L3.length c3')
  obtain ⟨w0, hw0⟩ : ∃ w0, (w.alloc (.cells (bkL D (.slice a1 n c1) (.slice a2 p c2) (ctL h r id (.slice a3 L3.length c3))).toArray 49)).alloc (.cells (bkL D (.slice a1' n c1') (.slice a2' p c2') (ctL h r id (.slice a3' L3.length c3'))).toArray 49) = w0 := ⟨_, rfl⟩
  have T0 : Turn no w w0 := by rw [← hw0]; exact ((Turn.refl no w).alloc _).alloc _
  have B0 : Row w0 w.heap.size (bkL D (.slice a1 n c1) (.slice a2 p c2) (ctL h r id (.slice a3 L3.length c3))).toArray 49 := by rw [← hw0]; exact (Row.new w _ 49).alloc _
  have B1 : Row w0 (w.heap.size + 1) (bkL D (.slice a1' n c1') (.slice a2' p c2') (ctL h r id (.slice a3' L3.length c3'))).toArray 49 := by rw [← hw0]; exact Row.newAt _ _ _ _ (by simp)
  have HC47 : Shut (∀ W, Turn no w0 W → Calls Tryd.prog 47 #[.agg (ctL h r id (.slice a3 L3.length c3)).toArray, .agg (ctL h r id (.slice a3' L3.length c3')).toArray] W fun e w' => e = .returned (.bool true) ∧ Turn no W w') := ⟨fun W t => sameC47 W h r id hid a3 a3' c3 c3' L3 (h3.turn_no (T0.then_no t)) (h3'.turn_no (T0.then_no t)) A3⟩
  have HZ1 : Shut (∀ W, Turn no w0 W → W.rangeAt w.heap.size 230 (ctL h r id (.slice a3 L3.length c3)) ∧ W.rangeAt (w.heap.size + 1) 230 (ctL h r id (.slice a3' L3.length c3'))) := ⟨fun W t => ⟨fun j u hu => t.keep (B0.cell (230 + j) _ (bkL_C hD _ _ j u hu)) (fun q => q), fun j u hu => t.keep (B1.cell (230 + j) _ (bkL_C hD _ _ j u hu)) (fun q => q)⟩⟩
  have sD : (Tryd.prog.info? 31).map (·.size) = some D.length := by rw [hD]; exact size31
  have HY : Shut ((∀ W, Turn no w0 W → W.cell? ⟨w.heap.size, 228, none⟩ = some (.slice a1 n c1) ∧ W.cell? ⟨w.heap.size + 1, 228, none⟩ = some (.slice a1' n c1')) ∧ TsAt w 22 a1 c1 L1 ∧ TsAt w 22 a1' c1' L1 ∧ ∀ k, k < n → ∃ m, L1[k]? = some m) := ⟨fun W t => ⟨t.keep (B0.cell 228 _ (bkL_228 hD _ _)) (fun q => q), t.keep (B1.cell 228 _ (bkL_228 hD _ _)) (fun q => q)⟩, h1, h1', fun k q => ⟨L1[k]'(by rw [hn']; exact q), List.getElem?_eq_getElem _⟩⟩
  have HX : Shut ((∀ W, Turn no w0 W → W.cell? ⟨w.heap.size, 229, none⟩ = some (.slice a2 p c2) ∧ W.cell? ⟨w.heap.size + 1, 229, none⟩ = some (.slice a2' p c2')) ∧ TsAt w 106 a2 c2 L2 ∧ TsAt w 106 a2' c2' L2 ∧ ∀ k, k < p → ∃ m, L2[k]? = some m) := ⟨fun W t => ⟨t.keep (B0.cell 229 _ (bkL_229 hD _ _)) (fun q => q), t.keep (B1.cell 229 _ (bkL_229 hD _ _)) (fun q => q)⟩, h2, h2', fun k q => ⟨L2[k]'(by rw [hp']; exact q), List.getElem?_eq_getElem _⟩⟩
  have HT0 := shut T0
  have HA1 := shut A1
  have HA2 := shut A2
  have x0 : w0.rangeAt w.heap.size 0 D := fun j u hu => B0.cell (0 + j) _ (bkL_D _ _ j u hu)
  have y0 : w0.rangeAt (w.heap.size + 1) 0 D := fun j u hu => B1.cell (0 + j) _ (bkL_D _ _ j u hu)
  obtain ⟨x1, y1⟩ := HY.out.1 w0 (Turn.refl no w0)
  obtain ⟨x2, y2⟩ := HX.out.1 w0 (Turn.refl no w0)
  have zC : (Tryd.prog.info? 34).map (·.size) = some (ctL h r id (.slice a3 L3.length c3)).length := by rw [hC]; exact size30a
  have zC' : (Tryd.prog.info? 34).map (·.size) = some (ctL h r id (.slice a3' L3.length c3')).length := by rw [hC']; exact size30a
  clear h1 h1' h2 h2' h3 h3' B0 B1 T0 hn' hp' hid A1 A2 A3 hD hC hC'
  generalize (bkL D (.slice a1 n c1) (.slice a2 p c2) (ctL h r id (.slice a3 L3.length c3))).toArray = K0 at *
  generalize (bkL D (.slice a1' n c1') (.slice a2' p c2') (ctL h r id (.slice a3' L3.length c3'))).toArray = K1 at *
  generalize ctL h r id (.slice a3 L3.length c3) = C at *
  generalize ctL h r id (.slice a3' L3.length c3') = C' at *
  go_enter Tryd.func17, Tryd.ntmps17
  go_upto_region 1 with fail
  try rw [hw0]
  go_upto_region 4 with (first | (guard_target =~ wpList _ _ _ ({ dst := some 8, op := Op.load 31 _, .. } :: _) _ _; refine wpList_load_midG (by rfl) 31 (.tmp 7) rfl w.heap.size 0 rfl D _ x0 Tryd.underlying31 rfl sD ?_) | (guard_target =~ wpList _ _ _ ({ dst := _, op := Op.load 31 _, .. } :: _) _ _; refine wpList_load_midG (by rfl) 31 (.tmp 9) rfl (w.heap.size + 1) 0 rfl D _ y0 Tryd.underlying31 rfl sD ?_))
  clear x0 x1 x2 y0 y1 y2 hw0 heq sD
  go_wp2_with fail
  go_loopw [5] (fun c wr => ∃ k : Nat, k ≤ n ∧ c = .int .i64 k ∧ Turn no w0 wr) (fun c _ => n - (intOf c).toNat)
  case atStart => exact ⟨0, by omega, rfl, Turn.refl _ _⟩
  case round =>
    obtain ⟨k, hk, rfl, T⟩ := hrel
    obtain ⟨y0, y1⟩ := HY.out.1 wr T
    by_cases hlt : k < n
    · obtain ⟨m, hm⟩ : ∃ m, L1[k]? = some m := HY.out.2.2.2 k hlt
      obtain ⟨b, off, rfl, c0⟩ := (HY.out.2.1.turn_no (HT0.out.then_no T)).cells k m hm
      obtain ⟨b', off', rfl, d0⟩ := (HY.out.2.2.1.turn_no (HT0.out.then_no T)).cells k m hm
      have hlt' : (k : Int) < (n : Int) := by omega
      obtain ⟨hs, hE⟩ := HA1.out m (List.mem_of_getElem? hm)
      clear hm
      generalize m.cs = X at *
      have HY2 : Shut (∀ W, Turn no wr W → W.cell? ⟨w.heap.size, 228, none⟩ = some (.slice (some ⟨b, off, none⟩) n c1) ∧ W.cell? ⟨w.heap.size + 1, 228, none⟩ = some (.slice (some ⟨b', off', none⟩) n c1')) := ⟨fun W t => HY.out.1 W (T.then_no t)⟩
      have HC : Shut (∀ W, Turn no wr W → W.rangeAt b (off + k * 22) X ∧ W.rangeAt b' (off' + k * 22) X) := ⟨fun W t => ⟨fun i v hi => t.keep (c0 i v hi) (fun q => q), fun i v hi => t.keep (d0 i v hi) (fun q => q)⟩⟩
      clear c0 d0
      go_wp2_with fail
      clear y0 y1
      refine wp_region_held_drew (S := fun W => Turn no wr W) (by kernel_rfl) (Turn.refl no wr).drew (fun hHeld => ?_)
      refine' wpAnyH_take (i := 0) (v := .pointer (some ⟨w.heap.size, 228, none⟩)) rfl (by kernel_rfl) (by kernel_rfl) (by kernel_rfl) (fun _ _ _ h => h) (Or.inl ⟨by kernel_rfl, fun W hW => ?y1⟩) hHeld ?r1
      · go_simp
      refine' wpAnyH_take (i := 1) (v := .slice (some ⟨b, off, none⟩) n c1) rfl (by kernel_rfl) (by kernel_rfl) (by kernel_rfl) (fun _ _ _ h => h) (Or.inl ⟨by kernel_rfl, fun W hW => ?y2⟩) hHeld ?r2
      · obtain ⟨y0, y1⟩ := HY2.out W hW
        go_simp
      refine' wpAnyH_take (i := 2) (v := .int .i64 k) rfl (by kernel_rfl) (by kernel_rfl) (by kernel_rfl) (fun _ _ _ h => h) (Or.inl ⟨by kernel_rfl, fun W hW => ?y3⟩) hHeld ?r3
      · go_simp
      refine' wpAnyH_take (i := 3) (v := .pointer (some ⟨b, off + k * 22, none⟩)) rfl (by kernel_rfl) (by kernel_rfl) (by kernel_rfl) (fun _ _ _ h => h) (Or.inl ⟨by kernel_rfl, fun W hW => ?y4⟩) hHeld ?r4
      · go_simp
      refine' wpAnyH_take (i := 4) (v := .agg X.toArray) rfl (by kernel_rfl) (by kernel_rfl) (by kernel_rfl) (fun _ _ _ h => h) (yieldsIf_load_mid (by kernel_rfl) 27 (.tmp 40) rfl b (off + k * 22) (by kernel_rfl) X _ (fun W h => (HC.out W h).1) Tryd.underlying27 rfl hs) hHeld ?s5a
      refine' wpAnyH_take (i := 5) (v := .pointer (some ⟨w.heap.size + 1, 228, none⟩)) rfl (by kernel_rfl) (by kernel_rfl) (by kernel_rfl) (fun _ _ _ h => h) (Or.inl ⟨by kernel_rfl, fun W hW => ?y5⟩) hHeld ?r5
      · go_simp
      refine' wpAnyH_take (i := 6) (v := .slice (some ⟨b', off', none⟩) n c1') rfl (by kernel_rfl) (by kernel_rfl) (by kernel_rfl) (fun _ _ _ h => h) (Or.inl ⟨by kernel_rfl, fun W hW => ?y6⟩) hHeld ?r6
      · obtain ⟨y0, y1⟩ := HY2.out W hW
        go_simp
      refine' wpAnyH_take (i := 7) (v := .int .i64 k) rfl (by kernel_rfl) (by kernel_rfl) (by kernel_rfl) (fun _ _ _ h => h) (Or.inl ⟨by kernel_rfl, fun W hW => ?y7⟩) hHeld ?r7
      · go_simp
      refine' wpAnyH_take (i := 8) (v := .pointer (some ⟨b', off' + k * 22, none⟩)) rfl (by kernel_rfl) (by kernel_rfl) (by kernel_rfl) (fun _ _ _ h => h) (Or.inl ⟨by kernel_rfl, fun W hW => ?y8⟩) hHeld ?r8
      · go_simp
      refine' wpAnyH_take (i := 9) (v := .agg X.toArray) rfl (by kernel_rfl) (by kernel_rfl) (by kernel_rfl) (fun _ _ _ h => h) (yieldsIf_load_mid (by kernel_rfl) 27 (.tmp 45) rfl b' (off' + k * 22) (by kernel_rfl) X _ (fun W h => (HC.out W h).2) Tryd.underlying27 rfl hs) hHeld ?s5b
      refine' wpAnyH_take (i := 10) (v := .bool false) rfl (by kernel_rfl) (by kernel_rfl) (by kernel_rfl) (fun _ _ _ h => h) (Or.inl ⟨by kernel_rfl, fun W hW => ?y9⟩) hHeld ?r9
      · go_simp
      refine wpAnyH_done (by kernel_rfl) ?_ _
      go_simp
      have HN := shut (T.then_no hHeld)
      clear hHeld HC HY2 hE
      go_wp2_with fail
      go_roundw
      case rel => exact ⟨k + 1, by omega, by go_num, HN.out⟩
      case measure => simp [intOf]; omega
    · have hkn : k = n := by omega
      have hlt' : ¬ (k : Int) < (n : Int) := by omega
      clear hkn
      go_wp2_with fail
      clear y0 y1 hlt hlt' hk
      go_loopw [6] (fun c wz => ∃ k : Nat, k ≤ p ∧ c = .int .i64 k ∧ Turn no w0 wz) (fun c _ => p - (intOf c).toNat)
      case atStart => exact ⟨0, by omega, rfl, T⟩
      case round =>
        obtain ⟨k, hk, rfl, T⟩ := hrel
        obtain ⟨y0, y1⟩ := HX.out.1 wr T
        by_cases hlt : k < p
        · obtain ⟨m, hm⟩ : ∃ m, L2[k]? = some m := HX.out.2.2.2 k hlt
          obtain ⟨b, off, rfl, c0⟩ := (HX.out.2.1.turn_no (HT0.out.then_no T)).cells k m hm
          obtain ⟨b', off', rfl, d0⟩ := (HX.out.2.2.1.turn_no (HT0.out.then_no T)).cells k m hm
          have hlt' : (k : Int) < (p : Int) := by omega
          obtain ⟨hs, hE⟩ := HA2.out m (List.mem_of_getElem? hm)
          clear hm
          generalize m.cs = X at *
          have HY2 : Shut (∀ W, Turn no wr W → W.cell? ⟨w.heap.size, 229, none⟩ = some (.slice (some ⟨b, off, none⟩) p c2) ∧ W.cell? ⟨w.heap.size + 1, 229, none⟩ = some (.slice (some ⟨b', off', none⟩) p c2')) := ⟨fun W t => HX.out.1 W (T.then_no t)⟩
          have HC : Shut (∀ W, Turn no wr W → W.rangeAt b (off + k * 106) X ∧ W.rangeAt b' (off' + k * 106) X) := ⟨fun W t => ⟨fun i v hi => t.keep (c0 i v hi) (fun q => q), fun i v hi => t.keep (d0 i v hi) (fun q => q)⟩⟩
          clear c0 d0
          go_wp2_with fail
          clear y0 y1
          refine wp_region_held_drew (S := fun W => Turn no wr W) (by kernel_rfl) (Turn.refl no wr).drew (fun hHeld => ?_)
          refine' wpAnyH_take (i := 0) (v := .pointer (some ⟨w.heap.size, 229, none⟩)) rfl (by kernel_rfl) (by kernel_rfl) (by kernel_rfl) (fun _ _ _ h => h) (Or.inl ⟨by kernel_rfl, fun W hW => ?y10⟩) hHeld ?r10
          · go_simp
          refine' wpAnyH_take (i := 1) (v := .slice (some ⟨b, off, none⟩) p c2) rfl (by kernel_rfl) (by kernel_rfl) (by kernel_rfl) (fun _ _ _ h => h) (Or.inl ⟨by kernel_rfl, fun W hW => ?y11⟩) hHeld ?r11
          · obtain ⟨y0, y1⟩ := HY2.out W hW
            go_simp
          refine' wpAnyH_take (i := 2) (v := .int .i64 k) rfl (by kernel_rfl) (by kernel_rfl) (by kernel_rfl) (fun _ _ _ h => h) (Or.inl ⟨by kernel_rfl, fun W hW => ?y12⟩) hHeld ?r12
          · go_simp
          refine' wpAnyH_take (i := 3) (v := .pointer (some ⟨b, off + k * 106, none⟩)) rfl (by kernel_rfl) (by kernel_rfl) (by kernel_rfl) (fun _ _ _ h => h) (Or.inl ⟨by kernel_rfl, fun W hW => ?y13⟩) hHeld ?r13
          · go_simp
          refine' wpAnyH_take (i := 4) (v := .agg X.toArray) rfl (by kernel_rfl) (by kernel_rfl) (by kernel_rfl) (fun _ _ _ h => h) (yieldsIf_load_mid (by kernel_rfl) 80 (.tmp 58) rfl b (off + k * 106) (by kernel_rfl) X _ (fun W h => (HC.out W h).1) Tryd.underlying80 rfl hs) hHeld ?s6a
          refine' wpAnyH_take (i := 5) (v := .pointer (some ⟨w.heap.size + 1, 229, none⟩)) rfl (by kernel_rfl) (by kernel_rfl) (by kernel_rfl) (fun _ _ _ h => h) (Or.inl ⟨by kernel_rfl, fun W hW => ?y14⟩) hHeld ?r14
          · go_simp
          refine' wpAnyH_take (i := 6) (v := .slice (some ⟨b', off', none⟩) p c2') rfl (by kernel_rfl) (by kernel_rfl) (by kernel_rfl) (fun _ _ _ h => h) (Or.inl ⟨by kernel_rfl, fun W hW => ?y15⟩) hHeld ?r15
          · obtain ⟨y0, y1⟩ := HY2.out W hW
            go_simp
          refine' wpAnyH_take (i := 7) (v := .int .i64 k) rfl (by kernel_rfl) (by kernel_rfl) (by kernel_rfl) (fun _ _ _ h => h) (Or.inl ⟨by kernel_rfl, fun W hW => ?y16⟩) hHeld ?r16
          · go_simp
          refine' wpAnyH_take (i := 8) (v := .pointer (some ⟨b', off' + k * 106, none⟩)) rfl (by kernel_rfl) (by kernel_rfl) (by kernel_rfl) (fun _ _ _ h => h) (Or.inl ⟨by kernel_rfl, fun W hW => ?y17⟩) hHeld ?r17
          · go_simp
          refine' wpAnyH_take (i := 9) (v := .agg X.toArray) rfl (by kernel_rfl) (by kernel_rfl) (by kernel_rfl) (fun _ _ _ h => h) (yieldsIf_load_mid (by kernel_rfl) 80 (.tmp 63) rfl b' (off' + k * 106) (by kernel_rfl) X _ (fun W h => (HC.out W h).2) Tryd.underlying80 rfl hs) hHeld ?s6b
          refine' wpAnyH_take (i := 10) (v := .bool false) rfl (by kernel_rfl) (by kernel_rfl) (by kernel_rfl) (fun _ _ _ h => h) (Or.inl ⟨by kernel_rfl, fun W hW => ?y18⟩) hHeld ?r18
          · go_simp
          refine wpAnyH_done (by kernel_rfl) ?_ _
          go_simp
          have HN := shut (T.then_no hHeld)
          clear hHeld HC HY2 hE
          go_wp2_with fail
          go_roundw
          case rel => exact ⟨k + 1, by omega, by go_num, HN.out⟩
          case measure => simp [intOf]; omega
        · have hkn : k = p := by omega
          have hlt' : ¬ (k : Int) < (p : Int) := by omega
          go_upto_region 13 with fail
          clear y0 y1
          obtain ⟨x0, y0⟩ := HZ1.out wr T
          have K47 := HC47.out wr T
          go_wp2_with (first | (guard_target =~ wpList _ _ _ ({ dst := some 67, op := Op.load 34 _, .. } :: _) _ _; refine wpList_load_midG (by rfl) 34 (.tmp 66) rfl w.heap.size 230 rfl C _ x0 Tryd.underlying34 rfl zC ?_) | (guard_target =~ wpList _ _ _ ({ dst := _, op := Op.load 34 _, .. } :: _) _ _; refine wpList_load_midG (by rfl) 34 (.tmp 68) rfl (w.heap.size + 1) 230 rfl C' _ y0 Tryd.underlying34 rfl zC' ?_) | (go_at_call 47; refine K47.mono ?_; clear K47; rintro e w9 ⟨rfl, t9⟩))
          go_ret
          exact ⟨rfl, HT0.out.then_no (T.then_no t9)⟩
end Go.Proofs.YtgimecdmleofeaaDoor
