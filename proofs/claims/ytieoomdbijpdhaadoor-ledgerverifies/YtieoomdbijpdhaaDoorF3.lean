/- A list's top, as the reference finds it. -/
import Derived.Test.YtieoomdbijpdhaaDoorF2
import Derived.Test.YtieoomdbijpdhaaDoorE6
namespace Go.Proofs.YtieoomdbijpdhaaDoor
open Go.RowKit
set_option linter.unusedVariables false

def topF : Nat → List (List UInt8) → List UInt8
  | 0, _ => hashOf []
  | f + 1, l => if l.length = 0 then hashOf [] else if l.length = 1 then hashOf (0 :: l.headD []) else hashOf (1 :: (topF f (l.take (splitN l.length)) ++ topF f (l.drop (splitN l.length))))
theorem topF_more : ∀ (f : Nat) (l : List (List UInt8)), l.length ≤ f → topF (f + 1) l = topF f l
  | 0, l, h => by
    show (if l.length = 0 then hashOf [] else _) = hashOf []
    rw [if_pos (by omega)]
  | f + 1, l, h => by
    show (if l.length = 0 then hashOf [] else if l.length = 1 then hashOf (0 :: l.headD []) else hashOf (1 :: (topF (f + 1) (l.take (splitN l.length)) ++ topF (f + 1) (l.drop (splitN l.length))))) = (if l.length = 0 then hashOf [] else if l.length = 1 then hashOf (0 :: l.headD []) else hashOf (1 :: (topF f (l.take (splitN l.length)) ++ topF f (l.drop (splitN l.length)))))
    by_cases h0 : l.length = 0
    · rw [if_pos h0, if_pos h0]
    · by_cases h1 : l.length = 1
      · rw [if_neg h0, if_neg h0, if_pos h1, if_pos h1]
      · have h2 := splitN_lt l.length (by omega)
        have h3 := splitN_pos l.length
        rw [if_neg h0, if_neg h0, if_neg h1, if_neg h1, topF_more f (l.take (splitN l.length)) (by simp; omega), topF_more f (l.drop (splitN l.length)) (by simp; omega)]
/-- A list's top. -/
def topH (l : List (List UInt8)) : List UInt8 := topF l.length l
theorem topF_eq (f : Nat) (l : List (List UInt8)) (h : l.length ≤ f) : topF f l = topH l := by
  obtain ⟨d, rfl⟩ : ∃ d, f = l.length + d := ⟨f - l.length, by omega⟩
  induction d with
  | zero => rfl
  | succ d ih => rw [← Nat.add_assoc, topF_more _ l (by omega)]; exact ih (by omega)
theorem topF_len : ∀ (f : Nat) (l : List (List UInt8)), (topF f l).length = 32
  | 0, l => hashOf_len _
  | f + 1, l => by
    show (if l.length = 0 then hashOf [] else if l.length = 1 then hashOf (0 :: l.headD []) else hashOf (1 :: (topF f (l.take (splitN l.length)) ++ topF f (l.drop (splitN l.length))))).length = 32
    split
    · exact hashOf_len _
    · split
      · exact hashOf_len _
      · exact hashOf_len _
theorem topH_len (l : List (List UInt8)) : (topH l).length = 32 := topF_len _ l
theorem topH_none (l : List (List UInt8)) (h : l.length = 0) : topH l = hashOf [] := by
  unfold topH
  rw [h]
  rfl
theorem topH_one (l : List (List UInt8)) (h : l.length = 1) : topH l = hashOf (0 :: l.headD []) := by
  unfold topH
  rw [h]
  show (if l.length = 0 then hashOf [] else if l.length = 1 then hashOf (0 :: l.headD []) else _) = _
  rw [if_neg (by omega), if_pos h]
theorem topH_more (l : List (List UInt8)) (h : 2 ≤ l.length) : topH l = hashOf (1 :: (topH (l.take (splitN l.length)) ++ topH (l.drop (splitN l.length)))) := by
  obtain ⟨m, hm⟩ : ∃ m, l.length = m + 1 := ⟨l.length - 1, by omega⟩
  have h2 := splitN_lt l.length (by omega)
  have h3 := splitN_pos l.length
  have e : topH l = topF (m + 1) l := by unfold topH; rw [hm]
  rw [e]
  show (if l.length = 0 then hashOf [] else if l.length = 1 then hashOf (0 :: l.headD []) else hashOf (1 :: (topF m (l.take (splitN l.length)) ++ topF m (l.drop (splitN l.length))))) = _
  rw [if_neg (by omega), if_neg (by omega), topF_eq m _ (by simp; omega), topF_eq m _ (by simp; omega)]

theorem Pcs.take {w : World} {b o : Nat} {l : List (Value × List UInt8)} (h : Pcs w b o l) (k : Nat) : Pcs w b o (l.take k) := fun j x hx => h j x (by
  rw [List.getElem?_take] at hx
  split at hx
  · exact hx
  · cases hx)
theorem Pcs.drop {w : World} {b o : Nat} {l : List (Value × List UInt8)} (h : Pcs w b o l) (k : Nat) : Pcs w b (o + k) (l.drop k) := fun j x hx => by
  rw [List.getElem?_drop] at hx
  have := h (k + j) x hx
  rwa [← Nat.add_assoc] at this

/-- A digest's bytes as a value. -/
def hb32 (X : List UInt8) : Array Value := (X.map bv).toArray

set_option maxRecDepth 100000 in
set_option maxHeartbeats 4000000 in
theorem rtop_any (n : Nat) : ∀ (l : List (Value × List UInt8)) (b o cap : Nat) (w : World), l.length = n → Pcs w b o l → n ≤ cap → 1 ≤ n → n ≤ 65536 → (∀ x ∈ l, x.2.length ≤ 1048576) → Laid0 w → 2 ≤ w.heap.size →
    Calls Tryd.prog 33 #[.slice (some ⟨b, o, none⟩) n cap] w fun e w' => e = .returned (.agg (hb32 (topH (l.map (·.2))))) ∧ Turn no w w' := by
  induction n using Nat.strongRecOn with
  | _ n ih =>
    intro l b o cap w hln hP hcap h1 h2 hx hl hsz
    obtain ⟨z, hz, hzs⟩ : ∃ z : Array Value, z = #[.int .u8 0, .int .u8 0, .int .u8 0, .int .u8 0, .int .u8 0, .int .u8 0, .int .u8 0, .int .u8 0, .int .u8 0, .int .u8 0, .int .u8 0, .int .u8 0, .int .u8 0, .int .u8 0, .int .u8 0, .int .u8 0, .int .u8 0, .int .u8 0, .int .u8 0, .int .u8 0, .int .u8 0, .int .u8 0, .int .u8 0, .int .u8 0, .int .u8 0, .int .u8 0, .int .u8 0, .int .u8 0, .int .u8 0, .int .u8 0, .int .u8 0, .int .u8 0] ∧ z.size = 32 := ⟨_, rfl, rfl⟩
    have T0 : Turn no w (w.alloc (.cells z 23)) := (Turn.refl no w).alloc _
    have RZ := Row.new w z 23
    by_cases h : n = 1
    · subst h
      match l, hln with
      | [x], _ =>
        have hp := (hP.turn_no T0) 0 x rfl
        obtain ⟨xv, xb⟩ := x
        have hxb : xb.length ≤ 1048576 := hx (xv, xb) (by simp)
        simp only at hp
        rw [show topH ([(xv, xb)].map (·.2)) = hashOf (0 :: xb) from topH_one _ rfl]
        have hc := leaf21 _ xv xb hp.2 (hl.turn T0 (fun q => q)) (by have := T0.size; omega) (by omega)
        have c0 : w.cell? ⟨b, o, none⟩ = some xv := by have := (hP 0 (xv, xb) rfl).1; simpa using this
        have hbw : b < w.heap.size := World.block_lt_of_cell? w _ c0
        have hs := hv_size (0 :: xb)
        have h1' := hv_one (0 :: xb)
        have hi := hv_info (0 :: xb)
        have hh : hb32 (hashOf (0 :: xb)) = hv (0 :: xb) := rfl
        rw [hh]
        obtain ⟨ax, cx, rfl⟩ := hp.2.slice
        clear hh hp hx hP ih
        generalize hv (0 :: xb) = H at *
        rw [hz] at T0 RZ hc
        go_enter Tryd.func33, Tryd.ntmps33
        go_wp2_with fail
        refine hc.mono ?_
        rintro e w2 ⟨rfl, t2⟩
        have RZ2 := RZ.turn t2 (fun q => q)
        have T2 := T0.then_no t2
        go_wp2_with (refine wpList_store_row rfl 23 (.tmp 2) (.tmp 16) rfl w.heap.size H rfl rfl 23 _ RZ2 hi (by rw [hs]; rfl) h1' ?_)
        refine bodyPost_ret (v := .agg H) ?_ rfl ⟨rfl, T2.setRow _ _ (fun q => by omega)⟩
        exact results_cell_row (P := Tryd.prog) Tryd.results33 _ _ w.heap.size 23 H (0, 0) _ rfl (setRow_heap _ _ _ _ _ _ RZ2) Tryd.underlying23 rfl hi
    · have hk1 := splitN_lt n (by omega)
      have hk2 := splitN_pos n
      have hbw : b < w.heap.size := by
        have := (hP 0 l[0] (by simp)).1
        exact World.block_lt_of_cell? w _ this
      have hsp := fun W => rsplit_any W n (by omega) h2
      have htk : (l.map (·.2)).take (splitN n) = (l.take (splitN n)).map (·.2) := by rw [List.map_take]
      have hdk : (l.map (·.2)).drop (splitN n) = (l.drop (splitN n)).map (·.2) := by rw [List.map_drop]
      have hml : (l.map (·.2)).length = n := by simpa using hln
      have htop := topH_more (l.map (·.2)) (by omega)
      rw [hml, htk, hdk] at htop
      rw [htop]
      have r1 := fun W (T : Turn no w W) => ih (splitN n) hk1 (l.take (splitN n)) b o cap W (by simp; omega) ((hP.turn_no T).take _) (by omega) hk2 (by omega) (fun x hx' => hx x (List.mem_of_mem_take hx')) (hl.turn T (fun q => q)) (by have := T.size; omega)
      have r2 := fun W (T : Turn no w W) => ih (n - splitN n) (by omega) (l.drop (splitN n)) b (o + splitN n) (cap - splitN n) W (by simp; omega) ((hP.turn_no T).drop _) (by omega) (by omega) (by omega) (fun x hx' => hx x (List.mem_of_mem_drop hx')) (hl.turn T (fun q => q)) (by have := T.size; omega)
      have lA := topH_len ((l.take (splitN n)).map (·.2))
      have lB := topH_len ((l.drop (splitN n)).map (·.2))
      generalize topH ((l.take (splitN n)).map (·.2)) = X at *
      generalize topH ((l.drop (splitN n)).map (·.2)) = Y at *
      have hin := fun W (T : Turn no w W) => inner14 W X Y lA lB (hl.turn T (fun q => q)) (by have := T.size; omega)
      have hs := hv_size (1 :: (X ++ Y))
      have h1' := hv_one (1 :: (X ++ Y))
      have hi := hv_info (1 :: (X ++ Y))
      have hh : hb32 (hashOf (1 :: (X ++ Y))) = hv (1 :: (X ++ Y)) := rfl
      rw [hh]
      have sA : (hb32 X).size = 32 := by simpa [hb32] using lA
      have sB : (hb32 Y).size = 32 := by simpa [hb32] using lB
      have oA : (hb32 X).all (·.oneCell') = true := by simp [hb32, bv, Value.oneCell']
      have oB : (hb32 Y).all (·.oneCell') = true := by simp [hb32, bv, Value.oneCell']
      have iA : (Tryd.prog.info? 23).map (·.size) = some (hb32 X).size := by rw [sA]; exact size35
      have iB : (Tryd.prog.info? 23).map (·.size) = some (hb32 Y).size := by rw [sB]; exact size35
      have hin' : ∀ W, Turn no w W → Calls Tryd.prog 14 #[.agg (hb32 X), .agg (hb32 Y)] W fun e w' => e = .returned (.agg (hv (1 :: (X ++ Y)))) ∧ Turn no W w' := hin
      clear hin hh htop htk hdk hml ih hx
      generalize hv (1 :: (X ++ Y)) = H at *
      generalize hb32 X = A at *
      generalize hb32 Y = B at *
      generalize splitN n = k at *
      have hn0 : ((n : Int) == 0) = false := by simp; omega
      have hn1 : ((n : Int) == 1) = false := by simp; omega
      have hkc : (k : Int) ≤ (cap : Int) := by omega
      have hkn : (k : Int) ≤ (n : Int) := by omega
      have hkne : ¬ cap = k := by omega
      rw [hz] at T0 RZ
      go_enter Tryd.func33, Tryd.ntmps33
      go_wp2_with fail
      refine (hsp _).mono ?_
      rintro e w' ⟨rfl, rfl⟩
      go_wp2_with fail
      refine (r1 _ T0).mono ?_
      rintro e w2 ⟨rfl, t2⟩
      have RZ2 := RZ.turn t2 (fun q => q)
      have T2 := T0.then_no t2
      have hsr2 : ∀ Z, (w2.alloc (.cells Z 23)).setRow w2.heap.size A = w2.alloc (.cells A 23) := fun Z => World.setRow_alloc_new _ _ _ _
      have RZ3 := RZ2.alloc (.cells A 23)
      have RA3 := Row.new w2 A 23
      have T3 : Turn no w (w2.alloc (.cells A 23)) := T2.alloc _
      clear RZ T0 t2
      go_wp2_with (refine wpList_store_row rfl 23 (.tmp 4) (.tmp 23) rfl w2.heap.size A rfl rfl 23 _ (heap_alloc_new w2 _) iA (by rw [sA]; rfl) oA ?_)
      generalize w2.alloc (.cells A 23) = w3 at *
      generalize w2.heap.size = q4 at *
      refine (r2 _ T3).mono ?_
      rintro e w4 ⟨rfl, t4⟩
      have RZ4 := RZ3.turn t4 (fun q => q)
      have RA4 := RA3.turn t4 (fun q => q)
      have T4 := T3.then_no t4
      have hsr4 : ∀ Z, (w4.alloc (.cells Z 23)).setRow w4.heap.size B = w4.alloc (.cells B 23) := fun Z => World.setRow_alloc_new _ _ _ _
      have RZ5 := RZ4.alloc (.cells B 23)
      have RA5 := RA4.alloc (.cells B 23)
      have RB5 := Row.new w4 B 23
      have T5 : Turn no w (w4.alloc (.cells B 23)) := T4.alloc _
      clear RZ3 RA3 T3 t4 RZ2 T2
      go_wp2_with (first
        | (refine wpList_store_row rfl 23 (.tmp 5) (.tmp 27) rfl w4.heap.size B rfl rfl 23 _ (heap_alloc_new w4 _) iB (by rw [sB]; rfl) oB ?_)
        | (rw [hsr4]; refine wpList_load_row rfl 23 (.tmp 4) rfl q4 rfl 23 A (0, 0) _ RA5 Tryd.underlying23 rfl iA ?_)
        | (refine wpList_load_row rfl 23 (.tmp 4) rfl q4 rfl 23 A (0, 0) _ RA5 Tryd.underlying23 rfl iA ?_)
        | (refine wpList_load_row rfl 23 (.tmp 5) rfl w4.heap.size rfl 23 B (0, 0) _ RB5 Tryd.underlying23 rfl iB ?_))
      refine (hin' _ T5).mono ?_
      rintro e w6 ⟨rfl, t6⟩
      have RZ6 := RZ5.turn t6 (fun q => q)
      have T6 := T5.then_no t6
      go_wp2_with (refine wpList_store_row rfl 23 (.tmp 2) (.tmp 30) rfl w.heap.size H rfl rfl 23 _ RZ6 hi (by rw [hs]; rfl) h1' ?_)
      refine bodyPost_ret (v := .agg H) ?_ rfl ⟨rfl, T6.setRow _ _ (fun q => by omega)⟩
      exact results_cell_row (P := Tryd.prog) Tryd.results33 _ _ w.heap.size 23 H (0, 0) _ rfl (setRow_heap _ _ _ _ _ _ RZ6) Tryd.underlying23 rfl hi
end Go.Proofs.YtieoomdbijpdhaaDoor

