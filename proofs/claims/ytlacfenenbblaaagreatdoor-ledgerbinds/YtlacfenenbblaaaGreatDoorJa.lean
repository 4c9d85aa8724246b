/- Texts in one. -/
import Derived.Test.YtlacfenenbblaaaGreatDoorFb
import Derived.Test.YtlacfenenbblaaaGreatDoorFa
import Derived.Test.YtlacfenenbblaaaGreatDoorBaseN
import Derived.Test.YtlacfenenbblaaaGreatDoorCm
import Derived.Deep.CutRange
import Derived.Deep.MidRow
import Derived.Laws.ResultCell
/- What a proof leads to, plain; a list of digests in memory. -/
namespace Go.Proofs.YtlacfenenbblaaaGreatDoor
open Go.RowKit
set_option linter.unusedVariables false

def upF : Nat → Nat → Nat → List (List UInt8) → List UInt8 → List UInt8
  | 0, _, _, _, x => x
  | f + 1, n, a, A, x => if n ≤ 1 then x else if a < splitN n then hashOf (1 :: (upF f (splitN n) a A.dropLast x ++ A.getLastD [])) else hashOf (1 :: (A.getLastD [] ++ upF f (n - splitN n) (a - splitN n) A.dropLast x))
theorem upF_more : ∀ (f n a : Nat) (A : List (List UInt8)) (x : List UInt8), n ≤ f → upF (f + 1) n a A x = upF f n a A x
  | 0, n, a, A, x, h => by
    show (if n ≤ 1 then x else _) = x
    rw [if_pos (by omega)]
  | f + 1, n, a, A, x, h => by
    show (if n ≤ 1 then x else if a < splitN n then hashOf (1 :: (upF (f + 1) (splitN n) a A.dropLast x ++ A.getLastD [])) else hashOf (1 :: (A.getLastD [] ++ upF (f + 1) (n - splitN n) (a - splitN n) A.dropLast x))) = (if n ≤ 1 then x else if a < splitN n then hashOf (1 :: (upF f (splitN n) a A.dropLast x ++ A.getLastD [])) else hashOf (1 :: (A.getLastD [] ++ upF f (n - splitN n) (a - splitN n) A.dropLast x)))
    by_cases h1 : n ≤ 1
    · rw [if_pos h1, if_pos h1]
    · have h2 := splitN_lt n (by omega)
      have h3 := splitN_pos n
      rw [if_neg h1, if_neg h1, upF_more f (splitN n) a _ x (by omega), upF_more f (n - splitN n) (a - splitN n) _ x (by omega)]
/-- The top that a leaf and the digests beside its way lead to. -/
def upH (n a : Nat) (A : List (List UInt8)) (x : List UInt8) : List UInt8 := upF n n a A x
theorem upF_eq (f n a : Nat) (A : List (List UInt8)) (x : List UInt8) (h : n ≤ f) : upF f n a A x = upH n a A x := by
  obtain ⟨d, rfl⟩ : ∃ d, f = n + d := ⟨f - n, by omega⟩
  induction d with
  | zero => rfl
  | succ d ih => rw [← Nat.add_assoc, upF_more _ n a A x (by omega)]; exact ih (by omega)
theorem upH_one (a : Nat) (A : List (List UInt8)) (x : List UInt8) : upH 1 a A x = x := rfl
theorem upH_left (n a : Nat) (A : List (List UInt8)) (x : List UInt8) (h : 2 ≤ n) (ha : a < splitN n) : upH n a A x = hashOf (1 :: (upH (splitN n) a A.dropLast x ++ A.getLastD [])) := by
  obtain ⟨m, rfl⟩ : ∃ m, n = m + 1 := ⟨n - 1, by omega⟩
  have h2 := splitN_lt (m + 1) (by omega)
  show (if m + 1 ≤ 1 then x else if a < splitN (m + 1) then hashOf (1 :: (upF m (splitN (m + 1)) a A.dropLast x ++ A.getLastD [])) else _) = _
  rw [if_neg (by omega), if_pos ha, upF_eq _ _ _ _ _ (by omega)]
theorem upH_right (n a : Nat) (A : List (List UInt8)) (x : List UInt8) (h : 2 ≤ n) (ha : ¬ a < splitN n) : upH n a A x = hashOf (1 :: (A.getLastD [] ++ upH (n - splitN n) (a - splitN n) A.dropLast x)) := by
  obtain ⟨m, rfl⟩ : ∃ m, n = m + 1 := ⟨n - 1, by omega⟩
  have h2 := splitN_pos (m + 1)
  show (if m + 1 ≤ 1 then x else if a < splitN (m + 1) then _ else hashOf (1 :: (A.getLastD [] ++ upF m (m + 1 - splitN (m + 1)) (a - splitN (m + 1)) A.dropLast x))) = _
  rw [if_neg (by omega), if_neg ha, upF_eq _ _ _ _ _ (by omega)]
theorem upH_len (n a : Nat) (A : List (List UInt8)) (x : List UInt8) (hx : x.length = 32) : (upH n a A x).length = 32 := by
  by_cases h : n ≤ 1
  · match n, h with
    | 0, _ => exact hx
    | 1, _ => exact hx
  · by_cases ha : a < splitN n
    · rw [upH_left n a A x (by omega) ha]; exact hashOf_len _
    · rw [upH_right n a A x (by omega) ha]; exact hashOf_len _
/-- A list of digests, wherever it lies. -/
structure HsAt (w : World) (a : Option Addr) (cap : Nat) (l : List (List UInt8)) : Prop where
  le : l.length ≤ cap
  cap : cap ≤ maxLen
  ok : ∀ m ∈ l, m.length = 32
  cells : ∀ (j : Nat) m, l[j]? = some m → ∃ b off, a = some ⟨b, off, none⟩ ∧ w.rangeAt b (off + j * 32) (m.map bv)
theorem HsAt.turn {S : Nat → Prop} {w w' : World} {a : Option Addr} {cap : Nat} {l : List (List UInt8)} (h : HsAt w a cap l) (t : Turn S w w') (hn : ∀ x, a = some x → ¬ S x.block) : HsAt w' a cap l :=
  ⟨h.le, h.cap, h.ok, fun j m hj => by
    obtain ⟨b, off, e, c⟩ := h.cells j m hj
    exact ⟨b, off, e, fun i v hi => t.keep (c i v hi) (by have := hn _ e; exact this)⟩⟩
theorem HsAt.turn_no {w w' : World} {a : Option Addr} {cap : Nat} {l : List (List UInt8)} (h : HsAt w a cap l) (t : Turn no w w') : HsAt w' a cap l := h.turn t (fun _ _ q => q)
theorem HsAt.front {w : World} {a : Option Addr} {cap : Nat} {l r : List (List UInt8)} (h : HsAt w a cap (l ++ r)) : HsAt w a cap l :=
  ⟨by have := h.le; simp at this; omega, h.cap, fun m hm => h.ok m (by simp [hm]), fun j m hj => h.cells j m (by rw [List.getElem?_append_left (List.getElem?_eq_some_iff.1 hj).1]; exact hj)⟩
theorem HsAt.init {w : World} {a : Option Addr} {cap : Nat} {l : List (List UInt8)} (h : HsAt w a cap l) : HsAt w a cap l.dropLast := by
  cases hl : l with
  | nil => rw [hl] at h; exact h
  | cons x r =>
    have e : l = l.dropLast ++ [l.getLast (by rw [hl]; simp)] := (List.dropLast_concat_getLast _).symm
    rw [e] at h
    have := h.front
    rw [← hl]
    exact this
/-- The last one. -/
theorem HsAt.last {w : World} {a : Option Addr} {cap : Nat} {l : List (List UInt8)} (h : HsAt w a cap l) (h0 : 0 < l.length) : ∃ b off, a = some ⟨b, off, none⟩ ∧ w.rangeAt b (off + (l.length - 1) * 32) ((l.getLastD []).map bv) ∧ (l.getLastD []).length = 32 := by
  have hm : l[l.length - 1]? = some (l.getLastD []) := by
    rw [List.getLastD_eq_getLast?, List.getLast?_eq_getElem?]
    have : l.length - 1 < l.length := by omega
    rw [List.getElem?_eq_getElem this]
    rfl
  obtain ⟨b, off, e, c⟩ := h.cells _ _ hm
  exact ⟨b, off, e, c, h.ok _ (List.mem_of_getElem? hm)⟩
end Go.Proofs.YtlacfenenbblaaaGreatDoor



/- climb. -/
namespace Go.Proofs.YtlacfenenbblaaaGreatDoor
open Go.RowKit
set_option linter.unusedVariables false

theorem hb32_size {X : List UInt8} (h : X.length = 32) : (hb32 X).size = 32 := by simpa [hb32] using h
theorem hb32_one (X : List UInt8) : (hb32 X).all (·.oneCell') = true := by simp [hb32, bv, Value.oneCell']
theorem hb32_info {X : List UInt8} (h : X.length = 32) : (Tryz.prog.info? 29).map (·.size) = some (hb32 X).size := by rw [hb32_size h]; exact size35
theorem Row.setOther {w : World} {g : Nat} {cs : Array Value} {e : TypeId} (h : Row w g cs e) {k : Nat} (hk : k ≠ g) (ds : Array Value) : Row (w.setRow k ds) g cs e := by
  unfold Row at *
  rw [setRow_other w k g ds (fun q => hk q.symm)]
  exact h
theorem Row.rng {w : World} {g : Nat} {X : Array Value} {e : TypeId} (h : Row w g X e) : w.rangeAt g 0 X.toList := fun j v hv => by
  rw [Nat.zero_add]
  exact h.cell j v (by simpa using hv)
set_option maxRecDepth 100000 in
set_option maxHeartbeats 4000000 in
theorem climb_any (n : Nat) : ∀ (at' : Nat) (A : List (List UInt8)) (a : Option Addr) (cap : Nat) (x : List UInt8) (w : World), 1 ≤ n → n ≤ 65536 → at' < n → A.length = stepsN n at' → HsAt w a cap A → x.length = 32 → Laid1 w → 2 ≤ w.heap.size →
    Calls Tryz.prog 108 #[.int .i64 n, .int .i64 at', .slice a A.length cap, .agg (hb32 x)] w fun e w' => e = .returned (.agg (hb32 (upH n at' A x))) ∧ Turn no w w' := by
  induction n using Nat.strongRecOn with
  | _ n ih =>
    intro at' A a cap x w h1 h2 h3 hA hH hx hl hsz
    obtain ⟨z, hz, hzs⟩ : ∃ z : Array Value, z = #[.int .u8 0, .int .u8 0, .int .u8 0, .int .u8 0, .int .u8 0, .int .u8 0, .int .u8 0, .int .u8 0, .int .u8 0, .int .u8 0, .int .u8 0, .int .u8 0, .int .u8 0, .int .u8 0, .int .u8 0, .int .u8 0, .int .u8 0, .int .u8 0, .int .u8 0, .int .u8 0, .int .u8 0, .int .u8 0, .int .u8 0, .int .u8 0, .int .u8 0, .int .u8 0, .int .u8 0, .int .u8 0, .int .u8 0, .int .u8 0, .int .u8 0, .int .u8 0] ∧ z.size = 32 := ⟨_, rfl, rfl⟩
    have sX := hb32_size hx
    have oX := hb32_one x
    have iX := hb32_info hx
    have T0 : Turn no w ((w.alloc (.cells (hb32 x) 29)).alloc (.cells z 29)) := ((Turn.refl no w).alloc _).alloc _
    have RX : Row ((w.alloc (.cells (hb32 x) 29)).alloc (.cells z 29)) w.heap.size (hb32 x) 29 := (Row.new w _ 29).alloc _
    have RZ : Row ((w.alloc (.cells (hb32 x) 29)).alloc (.cells z 29)) (w.heap.size + 1) z 29 := Row.newAt _ _ _ _ (by simp)
    by_cases h : n = 1
    · subst h
      rw [upH_one]
      generalize hb32 x = X at *
      obtain ⟨w0, hw0⟩ : ∃ w0, (w.alloc (.cells X 29)).alloc (.cells z 29) = w0 := ⟨_, rfl⟩
      rw [hw0] at T0 RX RZ
      clear ih hH hA
      go_enter Tryz.func108, Tryz.ntmps108
      go_upto_region 1 with fail
      rw [← hz]
      try rw [hw0]
      clear hw0
      go_wp2_with (first | (refine wpList_load_row rfl 29 (.tmp 7) rfl w.heap.size rfl 29 X _ _ RX Tryz.underlying29 rfl iX ?_) | (refine wpList_store_row rfl 29 (.tmp 8) (.tmp 13) rfl (w.heap.size + 1) X rfl rfl 29 z RZ iX (by omega) oX ?_))
      refine bodyPost_ret (v := .agg X) ?_ rfl ⟨rfl, T0.setRow _ _ (fun q => by omega)⟩
      exact results_cell_row (P := Tryz.prog) Tryz.results108 _ _ (w.heap.size + 1) 29 X (0, 0) _ rfl (setRow_heap _ _ _ _ _ _ RZ) Tryz.underlying29 rfl iX
    · have hk1 := splitN_lt n (by omega)
      have hk2 := splitN_pos n
      have hsp := fun W => split_any W n (by omega) h2
      have hn1 : ((n : Int) == 1) = false := by simp; omega
      have hle : A.length ≤ 65537 := by rw [hA]; have := stepsN_le n at'; omega
      by_cases ha : at' < splitN n
      · have hst := stepsN_left n at' (by omega) ha
        have hA0 : 0 < A.length := by omega
        obtain ⟨b, off, rfl, cl, ll⟩ := hH.last hA0
        have hll : A.length ≤ cap := hH.le
        have hcm := hH.cap
        have hdl : A.dropLast.length = A.length - 1 := List.length_dropLast
        have r1 := fun W (T : Turn no w W) => ih (splitN n) hk1 at' A.dropLast (some ⟨b, off, none⟩) cap x W hk2 (by omega) ha (by rw [hdl]; omega) (hH.turn_no T).init hx (hl.turn T (fun q => q)) (by have := T.size; omega)
        rw [upH_left n at' A x (by omega) ha]
        have lU := upH_len (splitN n) at' A.dropLast x hx
        rw [hdl] at r1
        generalize upH (splitN n) at' A.dropLast x = U at *
        generalize A.getLastD [] = la at *
        have hin := fun W (T : Turn no w W) => inner13 W U la lU ll (hl.turn T (fun q => q)) (by have := T.size; omega)
        have hs := hv_size (1 :: (U ++ la))
        have o1 := hv_one (1 :: (U ++ la))
        have hi := hv_info (1 :: (U ++ la))
        have hh : hb32 (hashOf (1 :: (U ++ la))) = hv (1 :: (U ++ la)) := rfl
        rw [hh]
        have hin' : ∀ W, Turn no w W → Calls Tryz.prog 26 #[.agg (hb32 U), .agg (hb32 la)] W fun e w' => e = .returned (.agg (hv (1 :: (U ++ la)))) ∧ Turn no W w' := hin
        have sU := hb32_size lU
        have HL : Shut (∀ W, Turn no w W → W.rangeAt b (off + (A.length - 1) * 32) (hb32 la).toList) := fun W T => by
          have e : (hb32 la).toList = la.map bv := by simp [hb32]
          rw [e]
          exact fun i v hi => T.keep (cl i v hi) (fun q => q)
        have iL : (Tryz.prog.info? 29).map (·.size) = some (hb32 la).toList.length := by rw [Array.length_toList]; exact hb32_info ll
        have HR1 := shut r1
        have HIN := shut hin'
        clear hin hin' r1 hh ih cl hH hdl hst hA lU ll
        generalize hv (1 :: (U ++ la)) = H at *
        generalize hb32 U = UA at *
        generalize hb32 la = LA at *
        generalize hb32 x = X at *
        generalize splitN n = k at *
        obtain ⟨L, hL⟩ : ∃ L, A.length = L + 1 := ⟨A.length - 1, by omega⟩
        rw [hL] at HR1 HL hle hll ⊢
        rw [Nat.add_sub_cancel] at HR1 HL
        clear hL hA0
        obtain ⟨w0, hw0⟩ : ∃ w0, (w.alloc (.cells X 29)).alloc (.cells z 29) = w0 := ⟨_, rfl⟩
        rw [hw0] at T0 RX RZ
        have iXl : (Tryz.prog.info? 29).map (·.size) = some X.toList.length := by rw [Array.length_toList]; exact iX
        have hwr : IntKind.i64.wrap (((L + 1 : Nat) : Int) - 1) = (L : Int) := by rw [IntKind.wrap_i64]; omega
        have ha' : (at' : Int) < (k : Int) := by omega
        have hcap : ¬ cap < L := by omega
        have hcm' : cap ≤ 9223372036854775807 := by simp only [maxLen] at hcm; omega
        clear hcm
        go_enter Tryz.func108, Tryz.ntmps108
        go_upto_region 1 with fail
        rw [← hz]
        try rw [hw0]
        clear hw0 hz
        go_upto_region 5 with (go_at_call 80; refine (hsp _).mono ?_; clear hsp; rintro e w' ⟨rfl, hw'⟩; subst hw')
        refine wp_region_held_drew (S := fun w' => (∃ z, Row w' (w.heap.size + 1) z 29 ∧ z.size = 32) ∧ Row w' w.heap.size X 29 ∧ Turn no w w') (by kernel_rfl) ⟨⟨z, RZ, hzs⟩, RX, T0.drew⟩ (fun hHeld => ?_)
        refine' wpAnyH_take (i := 0) (v := .int .i64 k) rfl (by kernel_rfl) (by kernel_rfl) (by kernel_rfl) (fun _ _ _ h => h) (Or.inl ⟨by kernel_rfl, fun W hW => ?y1⟩) hHeld ?r1
        · go_simp
        refine' wpAnyH_take (i := 1) (v := .int .i64 at') rfl (by kernel_rfl) (by kernel_rfl) (by kernel_rfl) (fun _ _ _ h => h) (Or.inl ⟨by kernel_rfl, fun W hW => ?y2⟩) hHeld ?r2
        · go_simp
        refine' wpAnyH_take (i := 2) (v := .slice (some ⟨b, off, none⟩) (L + 1) cap) rfl (by kernel_rfl) (by kernel_rfl) (by kernel_rfl) (fun _ _ _ h => h) (Or.inl ⟨by kernel_rfl, fun W hW => ?y3⟩) hHeld ?r3
        · go_simp
        refine' wpAnyH_take (i := 3) (v := .int .i64 L) rfl (by kernel_rfl) (by kernel_rfl) (by kernel_rfl) (fun _ _ _ h => h) (Or.inl ⟨by kernel_rfl, fun W hW => ?y4⟩) hHeld ?r4
        · go_simp
        refine' wpAnyH_take (i := 4) (v := .slice (some ⟨b, off, none⟩) L cap) rfl (by kernel_rfl) (by kernel_rfl) (by kernel_rfl) (fun _ _ _ h => h) (Or.inl ⟨by kernel_rfl, fun W hW => ?y5⟩) hHeld ?r5
        · go_simp
        refine' wpAnyH_take (i := 5) (v := .agg X) rfl (by kernel_rfl) (by kernel_rfl) (by kernel_rfl) (fun _ _ _ h => h) (yieldsIf_load_mid (by kernel_rfl) 29 (.tmp 7) rfl w.heap.size 0 (by kernel_rfl) X.toList _ (fun W h => h.2.1.rng) Tryz.underlying29 rfl iXl) hHeld ?s0
        refine' wpAnyH_take (i := 7) (v := .slice (some ⟨b, off, none⟩) (L + 1) cap) rfl (by kernel_rfl) (by kernel_rfl) (by kernel_rfl) (fun _ _ _ h => h) (Or.inl ⟨by kernel_rfl, fun W hW => ?y6⟩) hHeld ?r6
        · go_simp
        refine' wpAnyH_take (i := 8) (v := .int .i64 L) rfl (by kernel_rfl) (by kernel_rfl) (by kernel_rfl) (fun _ _ _ h => h) (Or.inl ⟨by kernel_rfl, fun W hW => ?y7⟩) hHeld ?r7
        · go_simp
        refine' wpAnyH_take (i := 9) (v := .pointer (some ⟨b, off + L * 32, none⟩)) rfl (by kernel_rfl) (by kernel_rfl) (by kernel_rfl) (fun _ _ _ h => h) (Or.inl ⟨by kernel_rfl, fun W hW => ?y8⟩) hHeld ?r8
        · go_simp
          intro q
          omega
        refine' wpAnyH_take (i := 10) (v := .agg LA) rfl (by kernel_rfl) (by kernel_rfl) (by kernel_rfl) (fun _ _ _ h => h) (yieldsIf_load_mid (by kernel_rfl) 29 (.tmp 31) rfl b (off + L * 32) (by kernel_rfl) LA.toList _ (fun W h => HL.out W h.2.2) Tryz.underlying29 rfl iL) hHeld ?s1
        refine wpAnyH_ready (rs := [6]) (by kernel_rfl) (by simp) ?_
        refine AllReadyH.cons rfl (fun K hK => ?_) AllReadyH.nil
        go_simp
        refine (HR1.out _ hHeld.2.2).mono ?_
        rintro e w2 ⟨rfl, t2⟩
        refine hK.out _ _ ⟨by obtain ⟨z, hz1, hz2⟩ := hHeld.1; exact ⟨z, hz1.turn t2 (fun q => q), hz2⟩, hHeld.2.1.turn t2 (fun q => q), hHeld.2.2.then_no t2⟩ (fun hHeld => ?_)
        clear hK
        refine wpAnyH_ready (rs := [11]) (by kernel_rfl) (by simp) ?_
        refine AllReadyH.cons rfl (fun K hK => ?_) AllReadyH.nil
        go_simp
        refine (HIN.out _ hHeld.2.2).mono ?_
        rintro e w6 ⟨rfl, t6⟩
        refine hK.out _ _ ⟨by obtain ⟨z, hz1, hz2⟩ := hHeld.1; exact ⟨z, hz1.turn t6 (fun q => q), hz2⟩, hHeld.2.1.turn t6 (fun q => q), hHeld.2.2.then_no t6⟩ (fun hHeld => ?_)
        clear hK
        refine wpAnyH_ready (rs := [12]) (by kernel_rfl) (by simp) ?_
        refine AllReadyH.cons rfl (fun K hK => ?_) AllReadyH.nil
        obtain ⟨⟨z6, RZ6, hz6⟩, RX6, T6⟩ := hHeld
        rw [if_pos (by kernel_rfl)]
        refine wp_store_row 29 _ _ rfl (w.heap.size + 1) H rfl rfl 29 z6 RZ6 hi (by omega) o1 ?_
        have hz' : (w6.setRow (w.heap.size + 1) H).heap[w.heap.size + 1]? = some (.cells H 29 (0, 0)) := setRow_heap _ _ _ _ _ _ RZ6
        have T7 : Turn no w (w6.setRow (w.heap.size + 1) H) := T6.setRow _ _ (fun q => by omega)
        refine hK.out _ _ ⟨⟨H, hz', hs⟩, Row.setOther RX6 (by omega) _, T7⟩ (fun hHeld => ?_)
        clear hK
        refine wpAnyH_done (by kernel_rfl) ?_ _
        go_wp2_with fail
        refine bodyPost_ret (v := .agg H) ?_ rfl ⟨rfl, T7⟩
        exact results_cell_row (P := Tryz.prog) Tryz.results108 _ _ (w.heap.size + 1) 29 H (0, 0) _ rfl hz' Tryz.underlying29 rfl hi
      · have hst := stepsN_right n at' (by omega) ha
        have hA0 : 0 < A.length := by omega
        obtain ⟨b, off, rfl, cl, ll⟩ := hH.last hA0
        have hll : A.length ≤ cap := hH.le
        have hcm := hH.cap
        have hdl : A.dropLast.length = A.length - 1 := List.length_dropLast
        have r1 := fun W (T : Turn no w W) => ih (n - splitN n) (by omega) (at' - splitN n) A.dropLast (some ⟨b, off, none⟩) cap x W (by omega) (by omega) (by omega) (by rw [hdl]; omega) (hH.turn_no T).init hx (hl.turn T (fun q => q)) (by have := T.size; omega)
        rw [upH_right n at' A x (by omega) ha]
        have lU := upH_len (n - splitN n) (at' - splitN n) A.dropLast x hx
        rw [hdl] at r1
        generalize upH (n - splitN n) (at' - splitN n) A.dropLast x = U at *
        generalize A.getLastD [] = la at *
        have hin := fun W (T : Turn no w W) => inner13 W la U ll lU (hl.turn T (fun q => q)) (by have := T.size; omega)
        have hs := hv_size (1 :: (la ++ U))
        have o1 := hv_one (1 :: (la ++ U))
        have hi := hv_info (1 :: (la ++ U))
        have hh : hb32 (hashOf (1 :: (la ++ U))) = hv (1 :: (la ++ U)) := rfl
        rw [hh]
        have hin' : ∀ W, Turn no w W → Calls Tryz.prog 26 #[.agg (hb32 la), .agg (hb32 U)] W fun e w' => e = .returned (.agg (hv (1 :: (la ++ U)))) ∧ Turn no W w' := hin
        have sU := hb32_size lU
        have HL : Shut (∀ W, Turn no w W → W.rangeAt b (off + (A.length - 1) * 32) (hb32 la).toList) := fun W T => by
          have e : (hb32 la).toList = la.map bv := by simp [hb32]
          rw [e]
          exact fun i v hi => T.keep (cl i v hi) (fun q => q)
        have iL : (Tryz.prog.info? 29).map (·.size) = some (hb32 la).toList.length := by rw [Array.length_toList]; exact hb32_info ll
        have HR1 := shut r1
        have HIN := shut hin'
        clear hin hin' r1 hh ih cl hH hdl hst hA lU ll
        generalize hv (1 :: (la ++ U)) = H at *
        generalize hb32 U = UA at *
        generalize hb32 la = LA at *
        generalize hb32 x = X at *
        generalize splitN n = k at *
        obtain ⟨L, hL⟩ : ∃ L, A.length = L + 1 := ⟨A.length - 1, by omega⟩
        rw [hL] at HR1 HL hle hll ⊢
        rw [Nat.add_sub_cancel] at HR1 HL
        clear hL hA0
        obtain ⟨nk, hnk⟩ : ∃ nk, n - k = nk := ⟨_, rfl⟩
        obtain ⟨ak, hak⟩ : ∃ ak, at' - k = ak := ⟨_, rfl⟩
        rw [hnk, hak] at HR1
        have e1 : IntKind.i64.wrap ((n : Int) - (k : Int)) = (nk : Int) := by rw [IntKind.wrap_i64]; omega
        have e2 : IntKind.i64.wrap ((at' : Int) - (k : Int)) = (ak : Int) := by rw [IntKind.wrap_i64]; omega
        obtain ⟨w0, hw0⟩ : ∃ w0, (w.alloc (.cells X 29)).alloc (.cells z 29) = w0 := ⟨_, rfl⟩
        rw [hw0] at T0 RX RZ
        have iXl : (Tryz.prog.info? 29).map (·.size) = some X.toList.length := by rw [Array.length_toList]; exact iX
        have hwr : IntKind.i64.wrap (((L + 1 : Nat) : Int) - 1) = (L : Int) := by rw [IntKind.wrap_i64]; omega
        have ha' : ¬ (at' : Int) < (k : Int) := by omega
        have hcap : ¬ cap < L := by omega
        have hcm' : cap ≤ 9223372036854775807 := by simp only [maxLen] at hcm; omega
        clear hcm hnk hak
        go_enter Tryz.func108, Tryz.ntmps108
        go_upto_region 1 with fail
        rw [← hz]
        try rw [hw0]
        clear hw0 hz
        go_upto_region 6 with (go_at_call 80; refine (hsp _).mono ?_; clear hsp; rintro e w' ⟨rfl, hw'⟩; subst hw')
        refine wp_region_held_drew (S := fun w' => (∃ z, Row w' (w.heap.size + 1) z 29 ∧ z.size = 32) ∧ Row w' w.heap.size X 29 ∧ Turn no w w') (by kernel_rfl) ⟨⟨z, RZ, hzs⟩, RX, T0.drew⟩ (fun hHeld => ?_)
        refine' wpAnyH_take (i := 0) (v := .slice (some ⟨b, off, none⟩) (L + 1) cap) rfl (by kernel_rfl) (by kernel_rfl) (by kernel_rfl) (fun _ _ _ h => h) (Or.inl ⟨by kernel_rfl, fun W hW => ?y9⟩) hHeld ?r9
        · go_simp
        refine' wpAnyH_take (i := 1) (v := .int .i64 L) rfl (by kernel_rfl) (by kernel_rfl) (by kernel_rfl) (fun _ _ _ h => h) (Or.inl ⟨by kernel_rfl, fun W hW => ?y10⟩) hHeld ?r10
        · go_simp
        refine' wpAnyH_take (i := 2) (v := .pointer (some ⟨b, off + L * 32, none⟩)) rfl (by kernel_rfl) (by kernel_rfl) (by kernel_rfl) (fun _ _ _ h => h) (Or.inl ⟨by kernel_rfl, fun W hW => ?y11⟩) hHeld ?r11
        · go_simp
          intro q
          omega
        refine' wpAnyH_take (i := 3) (v := .agg LA) rfl (by kernel_rfl) (by kernel_rfl) (by kernel_rfl) (fun _ _ _ h => h) (yieldsIf_load_mid (by kernel_rfl) 29 (.tmp 36) rfl b (off + L * 32) (by kernel_rfl) LA.toList _ (fun W h => HL.out W h.2.2) Tryz.underlying29 rfl iL) hHeld ?s3
        refine' wpAnyH_take (i := 4) (v := .int .i64 n) rfl (by kernel_rfl) (by kernel_rfl) (by kernel_rfl) (fun _ _ _ h => h) (Or.inl ⟨by kernel_rfl, fun W hW => ?y12⟩) hHeld ?r12
        · go_simp
        refine' wpAnyH_take (i := 5) (v := .int .i64 k) rfl (by kernel_rfl) (by kernel_rfl) (by kernel_rfl) (fun _ _ _ h => h) (Or.inl ⟨by kernel_rfl, fun W hW => ?y13⟩) hHeld ?r13
        · go_simp
        refine' wpAnyH_take (i := 6) (v := .int .i64 nk) rfl (by kernel_rfl) (by kernel_rfl) (by kernel_rfl) (fun _ _ _ h => h) (Or.inl ⟨by kernel_rfl, fun W hW => ?y14⟩) hHeld ?r14
        · go_simp
        refine' wpAnyH_take (i := 7) (v := .int .i64 at') rfl (by kernel_rfl) (by kernel_rfl) (by kernel_rfl) (fun _ _ _ h => h) (Or.inl ⟨by kernel_rfl, fun W hW => ?y15⟩) hHeld ?r15
        · go_simp
        refine' wpAnyH_take (i := 8) (v := .int .i64 k) rfl (by kernel_rfl) (by kernel_rfl) (by kernel_rfl) (fun _ _ _ h => h) (Or.inl ⟨by kernel_rfl, fun W hW => ?y16⟩) hHeld ?r16
        · go_simp
        refine' wpAnyH_take (i := 9) (v := .int .i64 ak) rfl (by kernel_rfl) (by kernel_rfl) (by kernel_rfl) (fun _ _ _ h => h) (Or.inl ⟨by kernel_rfl, fun W hW => ?y17⟩) hHeld ?r17
        · go_simp
        refine' wpAnyH_take (i := 10) (v := .slice (some ⟨b, off, none⟩) (L + 1) cap) rfl (by kernel_rfl) (by kernel_rfl) (by kernel_rfl) (fun _ _ _ h => h) (Or.inl ⟨by kernel_rfl, fun W hW => ?y18⟩) hHeld ?r18
        · go_simp
        refine' wpAnyH_take (i := 11) (v := .int .i64 L) rfl (by kernel_rfl) (by kernel_rfl) (by kernel_rfl) (fun _ _ _ h => h) (Or.inl ⟨by kernel_rfl, fun W hW => ?y19⟩) hHeld ?r19
        · go_simp
        refine' wpAnyH_take (i := 12) (v := .slice (some ⟨b, off, none⟩) L cap) rfl (by kernel_rfl) (by kernel_rfl) (by kernel_rfl) (fun _ _ _ h => h) (Or.inl ⟨by kernel_rfl, fun W hW => ?y20⟩) hHeld ?r20
        · go_simp
        refine' wpAnyH_take (i := 13) (v := .agg X) rfl (by kernel_rfl) (by kernel_rfl) (by kernel_rfl) (fun _ _ _ h => h) (yieldsIf_load_mid (by kernel_rfl) 29 (.tmp 7) rfl w.heap.size 0 (by kernel_rfl) X.toList _ (fun W h => h.2.1.rng) Tryz.underlying29 rfl iXl) hHeld ?s2
        refine wpAnyH_ready (rs := [14]) (by kernel_rfl) (by simp) ?_
        refine AllReadyH.cons rfl (fun K hK => ?_) AllReadyH.nil
        go_simp
        refine (HR1.out _ hHeld.2.2).mono ?_
        rintro e w2 ⟨rfl, t2⟩
        refine hK.out _ _ ⟨by obtain ⟨z, hz1, hz2⟩ := hHeld.1; exact ⟨z, hz1.turn t2 (fun q => q), hz2⟩, hHeld.2.1.turn t2 (fun q => q), hHeld.2.2.then_no t2⟩ (fun hHeld => ?_)
        clear hK
        refine wpAnyH_ready (rs := [15]) (by kernel_rfl) (by simp) ?_
        refine AllReadyH.cons rfl (fun K hK => ?_) AllReadyH.nil
        go_simp
        refine (HIN.out _ hHeld.2.2).mono ?_
        rintro e w6 ⟨rfl, t6⟩
        refine hK.out _ _ ⟨by obtain ⟨z, hz1, hz2⟩ := hHeld.1; exact ⟨z, hz1.turn t6 (fun q => q), hz2⟩, hHeld.2.1.turn t6 (fun q => q), hHeld.2.2.then_no t6⟩ (fun hHeld => ?_)
        clear hK
        refine wpAnyH_ready (rs := [16]) (by kernel_rfl) (by simp) ?_
        refine AllReadyH.cons rfl (fun K hK => ?_) AllReadyH.nil
        obtain ⟨⟨z6, RZ6, hz6⟩, RX6, T6⟩ := hHeld
        rw [if_pos (by kernel_rfl)]
        refine wp_store_row 29 _ _ rfl (w.heap.size + 1) H rfl rfl 29 z6 RZ6 hi (by omega) o1 ?_
        have hz' : (w6.setRow (w.heap.size + 1) H).heap[w.heap.size + 1]? = some (.cells H 29 (0, 0)) := setRow_heap _ _ _ _ _ _ RZ6
        have T7 : Turn no w (w6.setRow (w.heap.size + 1) H) := T6.setRow _ _ (fun q => by omega)
        refine hK.out _ _ ⟨⟨H, hz', hs⟩, Row.setOther RX6 (by omega) _, T7⟩ (fun hHeld => ?_)
        clear hK
        refine wpAnyH_done (by kernel_rfl) ?_ _
        go_wp2_with fail
        refine bodyPost_ret (v := .agg H) ?_ rfl ⟨rfl, T7⟩
        exact results_cell_row (P := Tryz.prog) Tryz.results108 _ _ (w.heap.size + 1) 29 H (0, 0) _ rfl hz' Tryz.underlying29 rfl hi
end Go.Proofs.YtlacfenenbblaaaGreatDoor



/- up. -/
namespace Go.Proofs.YtlacfenenbblaaaGreatDoor
open Go.RowKit
set_option linter.unusedVariables false

section
variable {P : Program} {ops : Array Oper} {rest : List Oper} {o : Oper} {a : Act} {w : World} {Q : Exit → Act → World → Prop}
/-- A store over a whole block; of the world behind it only that. -/
theorem wpList_store_anyN (hgd : o.guard = none) (hd : o.dst = none) (ty : TypeId) (x y : Operand) (ho : o.op = .store ty x y)
    (g : Nat) (cells : Array Value) (hx : a.eval x = .pointer (some ⟨g, 0, none⟩)) (hy : a.eval y = .agg cells)
    (t : TypeId) (old : Array Value) (hg : Row w g old t) (hi : (P.info? ty).map (·.size) = some cells.size)
    (hold : old.size = cells.size) (h1 : cells.all (·.oneCell') = true)
    (h : ∀ w', Row w' g cells t → Turn (fun k => k = g) w w' → wpList P ops Q rest a w') : wpList P ops Q (o :: rest) a w :=
  wpList_store_row hgd ty x y ho g cells hx hy t old hg hi hold h1 (by rw [hd]; exact h _ (setRow_heap w g old cells t _ hg) ((Turn.refl _ w).setRow g cells (fun _ => rfl)))
end
set_option maxRecDepth 100000 in
set_option maxHeartbeats 8000000 in
theorem up_any (n : Nat) : ∀ (at' : Nat) (A : List (List UInt8)) (a : Option Addr) (cap : Nat) (x : List UInt8) (w : World), 1 ≤ n → n ≤ 65536 → at' < n → A.length = stepsN n at' → HsAt w a cap A → x.length = 32 → Laid0 w → 2 ≤ w.heap.size →
    Calls Tryz.prog 36 #[.int .i64 n, .int .i64 at', .slice a A.length cap, .agg (hb32 x)] w fun e w' => e = .returned (.agg (hb32 (upH n at' A x))) ∧ Turn no w w' := by
  induction n using Nat.strongRecOn with
  | _ n ih =>
    intro at' A a cap x w h1 h2 h3 hA hH hx hl hsz
    obtain ⟨z, hz, hzs⟩ : ∃ z : Array Value, z = #[.int .u8 0, .int .u8 0, .int .u8 0, .int .u8 0, .int .u8 0, .int .u8 0, .int .u8 0, .int .u8 0, .int .u8 0, .int .u8 0, .int .u8 0, .int .u8 0, .int .u8 0, .int .u8 0, .int .u8 0, .int .u8 0, .int .u8 0, .int .u8 0, .int .u8 0, .int .u8 0, .int .u8 0, .int .u8 0, .int .u8 0, .int .u8 0, .int .u8 0, .int .u8 0, .int .u8 0, .int .u8 0, .int .u8 0, .int .u8 0, .int .u8 0, .int .u8 0] ∧ z.size = 32 := ⟨_, rfl, rfl⟩
    have hzv : ∀ W, (zeroValue 29).run Tryz.prog W = .ok (.agg z) W := fun W => by rw [hz]; kernel_rfl
    have sX := hb32_size hx
    have oX := hb32_one x
    have iX := hb32_info hx
    have T0 : Turn no w ((w.alloc (.cells (hb32 x) 29)).alloc (.cells z 29)) := ((Turn.refl no w).alloc _).alloc _
    have RX : Row ((w.alloc (.cells (hb32 x) 29)).alloc (.cells z 29)) w.heap.size (hb32 x) 29 := (Row.new w _ 29).alloc _
    have RZ : Row ((w.alloc (.cells (hb32 x) 29)).alloc (.cells z 29)) (w.heap.size + 1) z 29 := Row.newAt _ _ _ _ (by simp)
    clear hz
    by_cases h : n = 1
    · subst h
      rw [upH_one]
      generalize hb32 x = X at *
      obtain ⟨w0, hw0⟩ : ∃ w0, (w.alloc (.cells X 29)).alloc (.cells z 29) = w0 := ⟨_, rfl⟩
      rw [hw0] at T0 RX RZ
      clear ih hH hA
      go_enter Tryz.func36, Tryz.ntmps36
      go_upto_region 1 with fail
      try rw [hw0]
      clear hw0
      go_wp2_with (first | (refine wpList_load_row rfl 29 (.tmp 7) rfl w.heap.size rfl 29 X _ _ RX Tryz.underlying29 rfl iX ?_) | (refine wpList_store_row rfl 29 (.tmp 8) (.tmp 16) rfl (w.heap.size + 1) X rfl rfl 29 z RZ iX (by omega) oX ?_))
      refine bodyPost_ret (v := .agg X) ?_ rfl ⟨rfl, T0.setRow _ _ (fun q => by omega)⟩
      exact results_cell_row (P := Tryz.prog) Tryz.results36 _ _ (w.heap.size + 1) 29 X (0, 0) _ rfl (setRow_heap _ _ _ _ _ _ RZ) Tryz.underlying29 rfl iX
    · have hk1 := splitN_lt n (by omega)
      have hk2 := splitN_pos n
      have hsp := fun W => rsplit_any W n (by omega) h2
      have hn1 : ((n : Int) == 1) = false := by simp; omega
      have hle : A.length ≤ 65537 := by rw [hA]; have := stepsN_le n at'; omega
      by_cases ha : at' < splitN n
      · have hst := stepsN_left n at' (by omega) ha
        have hA0 : 0 < A.length := by omega
        obtain ⟨b, off, rfl, cl, ll⟩ := hH.last hA0
        have hll : A.length ≤ cap := hH.le
        have hcm := hH.cap
        have hdl : A.dropLast.length = A.length - 1 := List.length_dropLast
        have r1 := fun W (T : Turn no w W) => ih (splitN n) hk1 at' A.dropLast (some ⟨b, off, none⟩) cap x W hk2 (by omega) ha (by rw [hdl]; omega) (hH.turn_no T).init hx (hl.turn T (fun q => q)) (by have := T.size; omega)
        rw [upH_left n at' A x (by omega) ha]
        have lU := upH_len (splitN n) at' A.dropLast x hx
        rw [hdl] at r1
        generalize upH (splitN n) at' A.dropLast x = U at *
        generalize A.getLastD [] = la at *
        have hin := fun W (T : Turn no w W) => inner14 W U la lU ll (hl.turn T (fun q => q)) (by have := T.size; omega)
        have hs := hv_size (1 :: (U ++ la))
        have o1 := hv_one (1 :: (U ++ la))
        have hi := hv_info (1 :: (U ++ la))
        have hh : hb32 (hashOf (1 :: (U ++ la))) = hv (1 :: (U ++ la)) := rfl
        rw [hh]
        have hin' : ∀ W, Turn no w W → Calls Tryz.prog 29 #[.agg (hb32 U), .agg (hb32 la)] W fun e w' => e = .returned (.agg (hv (1 :: (U ++ la)))) ∧ Turn no W w' := hin
        have sU := hb32_size lU
        have oU := hb32_one U
        have iU := hb32_info lU
        have sL := hb32_size ll
        have oL := hb32_one la
        have iL' := hb32_info ll
        have HL : Shut (∀ W, Turn no w W → W.rangeAt b (off + (A.length - 1) * 32) (hb32 la).toList) := fun W T => by
          have e : (hb32 la).toList = la.map bv := by simp [hb32]
          rw [e]
          exact fun i v hi => T.keep (cl i v hi) (fun q => q)
        have iL : (Tryz.prog.info? 29).map (·.size) = some (hb32 la).toList.length := by rw [Array.length_toList]; exact hb32_info ll
        have HR1 := shut r1
        have HIN := shut hin'
        clear hin hin' r1 hh ih cl hH hdl hst hA lU ll
        generalize hv (1 :: (U ++ la)) = H at *
        generalize hb32 U = UA at *
        generalize hb32 la = LA at *
        generalize hb32 x = X at *
        generalize splitN n = k at *
        obtain ⟨L, hL⟩ : ∃ L, A.length = L + 1 := ⟨A.length - 1, by omega⟩
        rw [hL] at HR1 HL hle hll ⊢
        rw [Nat.add_sub_cancel] at HR1 HL
        clear hL hA0
        obtain ⟨w0, hw0⟩ : ∃ w0, (w.alloc (.cells X 29)).alloc (.cells z 29) = w0 := ⟨_, rfl⟩
        rw [hw0] at T0 RX RZ
        have hwr : IntKind.i64.wrap (((L + 1 : Nat) : Int) - 1) = (L : Int) := by rw [IntKind.wrap_i64]; omega
        have ha' : (at' : Int) < (k : Int) := by omega
        have hcap : ¬ cap < L := by omega
        have hlt : (L : Int) < ((L + 1 : Nat) : Int) := by omega
        have hcm' : cap ≤ 9223372036854775807 := by simp only [maxLen] at hcm; omega
        have rL := HL.out w0 T0
        clear hcm
        go_enter Tryz.func36, Tryz.ntmps36
        go_upto_region 1 with fail
        try rw [hw0]
        clear hw0
        go_upto_region 5 with (first | (go_at_call 40; refine (hsp _).mono ?_; clear hsp; rintro e w' ⟨rfl, hw'⟩; subst hw') | (guard_target =~ wpList _ _ _ ({ dst := _, op := Op.load 29 _, .. } :: _) _ _; refine wpList_load_mid rfl 29 (.tmp 23) rfl b (off + L * 32) rfl LA.toList _ rL Tryz.underlying29 rfl iL ?_) | (guard_target =~ wpList _ _ _ ({ dst := _, op := Op.store 29 _ _, .. } :: _) _ _; refine wpList_store_anyN rfl rfl 29 (.tmp 10) (.tmp 24) rfl _ LA rfl rfl 29 z (Row.new _ z 29) iL' (by omega) oL ?_; intro w1 R1 t1))
        have gX := RX.lt
        have gZ := RZ.lt
        have T1 : Turn (fun q => q = w'.heap.size) w' w1 := ((Turn.refl no w').alloc _).of_no.trans t1 (fun _ _ e => e)
        have RX1 := RX.turn T1 (fun e => by omega)
        have RZ1 := RZ.turn T1 (fun e => by omega)
        have TW1 : Turn no w w1 := T0.trans T1 (fun i hi e => by have := T0.size; omega)
        have hr := HR1.out w1 TW1
        have HTW1 := shut TW1
        have gL : w'.heap.size < w1.heap.size := R1.lt
        clear T1 t1 RX RZ T0 HR1 HL rL
        generalize w'.heap.size = g2 at *
        go_upto_region 8 with (first | (guard_target =~ wpList _ _ _ ({ dst := _, op := Op.load 29 _, .. } :: _) _ _; refine wpList_load_row rfl 29 (.tmp 7) rfl w.heap.size rfl 29 X _ _ RX1 Tryz.underlying29 rfl iX ?_) | (go_at_call 36; refine hr.mono ?_; clear hr; rintro e w2 ⟨rfl, t2⟩) | (guard_target =~ wpList _ _ _ ({ dst := _, op := Op.store 29 _ _, .. } :: _) _ _; refine wpList_store_anyN rfl rfl 29 (.tmp 12) (.tmp 37) rfl _ UA rfl rfl 29 z (Row.new _ z 29) iU (by omega) oU ?_; intro w3 R3 t3))
        have T23 : Turn (fun q => q = w2.heap.size) w2 w3 := ((Turn.refl no w2).alloc _).of_no.trans t3 (fun _ _ e => e)
        have T13 : Turn no w1 w3 := t2.trans T23 (fun i hi e => by have := t2.size; omega)
        have RZ3 := RZ1.turn T13 (fun q => q)
        have RL3 : Row w3 g2 LA 29 := Row.turn R1 T13 (fun q => q)
        have TW3 := HTW1.out.then_no T13
        have hr := HIN.out w3 TW3
        have HTW3 := shut TW3
        clear T23 T13 t2 t3 RX1 RZ1 TW3 HTW1 HIN R1
        generalize w2.heap.size = g3 at *
        go_wp2_with (first | (guard_target =~ wpList _ _ _ ({ dst := some 38, op := Op.load 29 _, .. } :: _) _ _; refine wpList_load_row rfl 29 (.tmp 12) rfl g3 rfl 29 UA _ _ R3 Tryz.underlying29 rfl iU ?_) | (guard_target =~ wpList _ _ _ ({ dst := some 39, op := Op.load 29 _, .. } :: _) _ _; refine wpList_load_row rfl 29 (.tmp 10) rfl g2 rfl 29 LA _ _ RL3 Tryz.underlying29 rfl iL' ?_) | (go_at_call 29; refine hr.mono ?_; clear hr; rintro e w4 ⟨rfl, t4⟩; have RZ4 := Row.turn RZ3 t4 (fun q => q); have TW4 := HTW3.out.then_no t4) | (guard_target =~ wpList _ _ _ ({ dst := _, op := Op.store 29 _ _, .. } :: _) _ _; refine wpList_store_row rfl 29 (.tmp 8) (.tmp 40) rfl (w.heap.size + 1) H rfl rfl 29 z RZ4 hi (by omega) o1 ?_))
        refine bodyPost_ret (v := .agg H) ?_ rfl ⟨rfl, TW4.setRow _ _ (fun q => by omega)⟩
        exact results_cell_row (P := Tryz.prog) Tryz.results36 _ _ (w.heap.size + 1) 29 H (0, 0) _ rfl (setRow_heap _ _ _ _ _ _ RZ4) Tryz.underlying29 rfl hi
      · have hst := stepsN_right n at' (by omega) ha
        have hA0 : 0 < A.length := by omega
        obtain ⟨b, off, rfl, cl, ll⟩ := hH.last hA0
        have hll : A.length ≤ cap := hH.le
        have hcm := hH.cap
        have hdl : A.dropLast.length = A.length - 1 := List.length_dropLast
        have r1 := fun W (T : Turn no w W) => ih (n - splitN n) (by omega) (at' - splitN n) A.dropLast (some ⟨b, off, none⟩) cap x W (by omega) (by omega) (by omega) (by rw [hdl]; omega) (hH.turn_no T).init hx (hl.turn T (fun q => q)) (by have := T.size; omega)
        rw [upH_right n at' A x (by omega) ha]
        have lU := upH_len (n - splitN n) (at' - splitN n) A.dropLast x hx
        rw [hdl] at r1
        generalize upH (n - splitN n) (at' - splitN n) A.dropLast x = U at *
        generalize A.getLastD [] = la at *
        have hin := fun W (T : Turn no w W) => inner14 W la U ll lU (hl.turn T (fun q => q)) (by have := T.size; omega)
        have hs := hv_size (1 :: (la ++ U))
        have o1 := hv_one (1 :: (la ++ U))
        have hi := hv_info (1 :: (la ++ U))
        have hh : hb32 (hashOf (1 :: (la ++ U))) = hv (1 :: (la ++ U)) := rfl
        rw [hh]
        have hin' : ∀ W, Turn no w W → Calls Tryz.prog 29 #[.agg (hb32 la), .agg (hb32 U)] W fun e w' => e = .returned (.agg (hv (1 :: (la ++ U)))) ∧ Turn no W w' := hin
        have sU := hb32_size lU
        have oU := hb32_one U
        have iU := hb32_info lU
        have sL := hb32_size ll
        have oL := hb32_one la
        have iL' := hb32_info ll
        have HL : Shut (∀ W, Turn no w W → W.rangeAt b (off + (A.length - 1) * 32) (hb32 la).toList) := fun W T => by
          have e : (hb32 la).toList = la.map bv := by simp [hb32]
          rw [e]
          exact fun i v hi => T.keep (cl i v hi) (fun q => q)
        have iL : (Tryz.prog.info? 29).map (·.size) = some (hb32 la).toList.length := by rw [Array.length_toList]; exact hb32_info ll
        have HR1 := shut r1
        have HIN := shut hin'
        clear hin hin' r1 hh ih cl hH hdl hst hA lU ll
        generalize hv (1 :: (la ++ U)) = H at *
        generalize hb32 U = UA at *
        generalize hb32 la = LA at *
        generalize hb32 x = X at *
        generalize splitN n = k at *
        obtain ⟨L, hL⟩ : ∃ L, A.length = L + 1 := ⟨A.length - 1, by omega⟩
        rw [hL] at HR1 HL hle hll ⊢
        rw [Nat.add_sub_cancel] at HR1 HL
        clear hL hA0
        obtain ⟨nk, hnk⟩ : ∃ nk, n - k = nk := ⟨_, rfl⟩
        obtain ⟨ak, hak⟩ : ∃ ak, at' - k = ak := ⟨_, rfl⟩
        rw [hnk, hak] at HR1
        have e1 : IntKind.i64.wrap ((n : Int) - (k : Int)) = (nk : Int) := by rw [IntKind.wrap_i64]; omega
        have e2 : IntKind.i64.wrap ((at' : Int) - (k : Int)) = (ak : Int) := by rw [IntKind.wrap_i64]; omega
        clear hnk hak
        obtain ⟨w0, hw0⟩ : ∃ w0, (w.alloc (.cells X 29)).alloc (.cells z 29) = w0 := ⟨_, rfl⟩
        rw [hw0] at T0 RX RZ
        have hwr : IntKind.i64.wrap (((L + 1 : Nat) : Int) - 1) = (L : Int) := by rw [IntKind.wrap_i64]; omega
        have ha' : ¬ (at' : Int) < (k : Int) := by omega
        have hcap : ¬ cap < L := by omega
        have hlt : (L : Int) < ((L + 1 : Nat) : Int) := by omega
        have hcm' : cap ≤ 9223372036854775807 := by simp only [maxLen] at hcm; omega
        have rL := HL.out w0 T0
        clear hcm
        go_enter Tryz.func36, Tryz.ntmps36
        go_upto_region 1 with fail
        try rw [hw0]
        clear hw0
        go_upto_region 5 with (first | (go_at_call 40; refine (hsp _).mono ?_; clear hsp; rintro e w' ⟨rfl, hw'⟩; subst hw') | (guard_target =~ wpList _ _ _ ({ dst := _, op := Op.load 29 _, .. } :: _) _ _; refine wpList_load_mid rfl 29 (.tmp 23) rfl b (off + L * 32) rfl LA.toList _ rL Tryz.underlying29 rfl iL ?_) | (guard_target =~ wpList _ _ _ ({ dst := _, op := Op.store 29 _ _, .. } :: _) _ _; refine wpList_store_anyN rfl rfl 29 (.tmp 10) (.tmp 24) rfl _ LA rfl rfl 29 z (Row.new _ z 29) iL' (by omega) oL ?_; intro w1 R1 t1))
        have gX := RX.lt
        have gZ := RZ.lt
        have T1 : Turn (fun q => q = w'.heap.size) w' w1 := ((Turn.refl no w').alloc _).of_no.trans t1 (fun _ _ e => e)
        have RX1 := RX.turn T1 (fun e => by omega)
        have RZ1 := RZ.turn T1 (fun e => by omega)
        have TW1 : Turn no w w1 := T0.trans T1 (fun i hi e => by have := T0.size; omega)
        have hr := HR1.out w1 TW1
        have HTW1 := shut TW1
        have gL : w'.heap.size < w1.heap.size := R1.lt
        clear T1 t1 RX RZ T0 HR1 HL rL
        generalize w'.heap.size = g2 at *
        go_upto_region 10 with (first | (guard_target =~ wpList _ _ _ ({ dst := _, op := Op.load 29 _, .. } :: _) _ _; refine wpList_load_row rfl 29 (.tmp 7) rfl w.heap.size rfl 29 X _ _ RX1 Tryz.underlying29 rfl iX ?_) | (go_at_call 36; refine hr.mono ?_; clear hr; rintro e w2 ⟨rfl, t2⟩) | (guard_target =~ wpList _ _ _ ({ dst := _, op := Op.store 29 _ _, .. } :: _) _ _; refine wpList_store_anyN rfl rfl 29 (.tmp 13) (.tmp 49) rfl _ UA rfl rfl 29 z (Row.new _ z 29) iU (by omega) oU ?_; intro w3 R3 t3))
        have T23 : Turn (fun q => q = w2.heap.size) w2 w3 := ((Turn.refl no w2).alloc _).of_no.trans t3 (fun _ _ e => e)
        have T13 : Turn no w1 w3 := t2.trans T23 (fun i hi e => by have := t2.size; omega)
        have RZ3 := RZ1.turn T13 (fun q => q)
        have RL3 : Row w3 g2 LA 29 := Row.turn R1 T13 (fun q => q)
        have TW3 := HTW1.out.then_no T13
        have hr := HIN.out w3 TW3
        have HTW3 := shut TW3
        clear T23 T13 t2 t3 RX1 RZ1 TW3 HTW1 HIN R1
        generalize w2.heap.size = g3 at *
        go_wp2_with (first | (guard_target =~ wpList _ _ _ ({ dst := some 50, op := Op.load 29 _, .. } :: _) _ _; refine wpList_load_row rfl 29 (.tmp 10) rfl g2 rfl 29 LA _ _ RL3 Tryz.underlying29 rfl iL' ?_) | (guard_target =~ wpList _ _ _ ({ dst := some 51, op := Op.load 29 _, .. } :: _) _ _; refine wpList_load_row rfl 29 (.tmp 13) rfl g3 rfl 29 UA _ _ R3 Tryz.underlying29 rfl iU ?_) | (go_at_call 29; refine hr.mono ?_; clear hr; rintro e w4 ⟨rfl, t4⟩; have RZ4 := Row.turn RZ3 t4 (fun q => q); have TW4 := HTW3.out.then_no t4) | (guard_target =~ wpList _ _ _ ({ dst := _, op := Op.store 29 _ _, .. } :: _) _ _; refine wpList_store_row rfl 29 (.tmp 8) (.tmp 52) rfl (w.heap.size + 1) H rfl rfl 29 z RZ4 hi (by omega) o1 ?_))
        refine bodyPost_ret (v := .agg H) ?_ rfl ⟨rfl, TW4.setRow _ _ (fun q => by omega)⟩
        exact results_cell_row (P := Tryz.prog) Tryz.results36 _ _ (w.heap.size + 1) 29 H (0, 0) _ rfl (setRow_heap _ _ _ _ _ _ RZ4) Tryz.underlying29 rfl hi
end Go.Proofs.YtlacfenenbblaaaGreatDoor


/- Path. -/
namespace Go.Proofs.YtlacfenenbblaaaGreatDoor
open Go.RowKit
set_option linter.unusedVariables false

def z32 : List UInt8 := List.replicate 32 0
theorem z32_len : z32.length = 32 := rfl
/-- What Path answers: the number. -/
def pathE (t i : Int) (n m : Nat) : Int := if 1048576 < m then 4 else if fitsB t i n = true then 0 else 20
/-- What Path answers: the digest. -/
def pathH (t i : Int) (A : List (List UInt8)) (x : List UInt8) : List UInt8 := if pathE t i A.length x.length = 0 then hashOf (2 :: (numE t.toNat ++ upH t.toNat i.toNat A (hashOf (0 :: x)))) else z32
theorem pathH_len (t i : Int) (A : List (List UInt8)) (x : List UInt8) : (pathH t i A x).length = 32 := by
  unfold pathH
  split
  · exact hashOf_len _
  · rfl
theorem bld35 (w : World) : (Instr.build 29 #[]).run Tryz.prog w = .ok (.agg (hb32 z32)) w := by kernel_rfl
theorem zero35v (w : World) : (zeroValue 29).run Tryz.prog w = .ok (.agg (hb32 z32)) w := by kernel_rfl
section
variable {P : Program} {ops : Array Oper} {rest : List Oper} {op : Oper} {a : Act} {w : World} {Q : Exit → Act → World → Prop}
theorem wpList_want (hg : Region.wanted op (yielded ops a.tmps) = true) (h : ∀ K : Act → World → Prop, (∀ a w, wpList P ops Q rest a w → K a w) → op.wp P a w K Q) : wpList P ops Q (op :: rest) a w :=
  wpList_step fun K hK => by simp only [hg, if_true]; exact h K hK
theorem wpList_buildG (hgd : Region.wanted op (yielded ops a.tmps) = true) (t : TypeId) (ho : op.op = .build t #[]) (r : Value) (hr : (Instr.build t #[]).run P w = .ok r w) (h : wpList P ops Q rest (a.put op.dst r) w) : wpList P ops Q (op :: rest) a w :=
  wpList_want hgd fun K hK => by
    unfold Oper.wp execOp
    simp only [ho, Sem.run_bind, List.map_toArray, List.map_nil, hr, Result.andThen_ok, Sem.run_pure]
    exact hK _ _ h
end
set_option maxRecDepth 100000 in
set_option maxHeartbeats 4000000 in
theorem path25 (w : World) (t i : Int) (A : List (List UInt8)) (a : Option Addr) (cap : Nat) (hA : HsAt w a cap A) (v : Value) (x : List UInt8) (hb : Bs w v x) (hl : Laid1 w) (hsz : 2 ≤ w.heap.size) :
    Calls Tryz.prog 90 #[.agg #[.int .i64 t, .int .i64 i, .slice a A.length cap], v] w fun e w' => e = .returned (.tuple #[.agg (hb32 (pathH t i A x)), .int .i64 (pathE t i A.length x.length)]) ∧ Turn no w w' := by
  obtain ⟨n, hn⟩ : ∃ n, Hid (A.length = n) := ⟨_, rfl⟩
  have hn' := hn.out
  have hb2 := hb
  obtain ⟨xa, xc, rfl⟩ := hb2.slice
  have HZ : Shut ((hb32 z32).size = 32) := hb32_size z32_len
  have HZo := shut (hb32_one z32)
  have iZ := hb32_info z32_len
  have hzv := zero35v
  have hbd := shut bld35
  have T0 : Turn no w ((w.alloc (.cells #[.int .i64 t, .int .i64 i, .slice a n cap] 47)).alloc (.cells (hb32 z32) 29)) := ((Turn.refl no w).alloc _).alloc _
  have RP : Row ((w.alloc (.cells #[.int .i64 t, .int .i64 i, .slice a n cap] 47)).alloc (.cells (hb32 z32) 29)) w.heap.size #[.int .i64 t, .int .i64 i, .slice a n cap] 47 := (Row.new w _ 47).alloc _
  have RZ : Row ((w.alloc (.cells #[.int .i64 t, .int .i64 i, .slice a n cap] 47)).alloc (.cells (hb32 z32) 29)) (w.heap.size + 1) (hb32 z32) 29 := Row.newAt _ _ _ _ (by simp)
  obtain ⟨w0, hw0⟩ : ∃ w0, (w.alloc (.cells #[.int .i64 t, .int .i64 i, .slice a n cap] 47)).alloc (.cells (hb32 z32) 29) = w0 := ⟨_, rfl⟩
  rw [hw0] at T0 RP RZ
  have hf := fits_any w0 t i a n cap
  by_cases h1 : 1048576 < x.length
  · have he : pathE t i A.length x.length = 4 := if_pos h1
    have hp : pathH t i A x = z32 := by unfold pathH; rw [he]; rfl
    rw [he, hp, hn']
    generalize hb32 z32 = Z at *
    have h1' : (1048576 : Int) < (x.length : Int) := by omega
    generalize x.length = m at *
    clear hf hA hb hb2 he hp hn'
    go_enter Tryz.func90, Tryz.ntmps90
    go_upto_region 1 with fail
    try rw [hw0]
    clear hw0 hzv
    go_wp2_with (first | (guard_target =~ wpList _ _ _ ({ dst := _, op := Op.build 29 _, .. } :: _) _ _; refine wpList_buildG (by kernel_rfl) 29 rfl _ (hbd.out _) ?_) | (guard_target =~ wpList _ _ _ ({ dst := _, op := Op.store 29 _ _, .. } :: _) _ _; refine wpList_store_row rfl 29 (.tmp 4) (.tmp 9) rfl (w.heap.size + 1) Z rfl rfl 29 Z RZ iZ rfl HZo.out ?_))
    refine bodyPost_ret (v := .tuple #[.agg Z, .int .i64 4]) ?_ rfl ⟨rfl, T0.setRow _ _ (fun q => by omega)⟩
    exact results_cell_row_tmp (P := Tryz.prog) Tryz.results90 _ _ (w.heap.size + 1) 29 Z (0, 0) _ rfl (setRow_heap _ _ _ _ _ _ RZ) Tryz.underlying29 rfl iZ
  · have h1' : ¬ (1048576 : Int) < (x.length : Int) := by omega
    cases hfb : fitsB t i A.length with
    | false =>
      have he : pathE t i A.length x.length = 20 := by unfold pathE; rw [if_neg h1, hfb]; rfl
      have hp : pathH t i A x = z32 := by unfold pathH; rw [he]; rfl
      rw [he, hp, hn']
      rw [hn'] at hfb
      rw [hfb] at hf
      generalize hb32 z32 = Z at *
      generalize x.length = m at *
      have p0 := RP.cell 0 _ rfl
      have p1 := RP.cell 1 _ rfl
      have p2 := RP.cell 2 _ rfl
      clear hA hb hb2 he hp hn' hfb
      go_enter Tryz.func90, Tryz.ntmps90
      go_upto_region 1 with fail
      try rw [hw0]
      clear hw0 hzv
      go_wp2_with (first | (go_at_call 107; refine hf.mono ?_; clear hf; rintro e w2 ⟨rfl, t2⟩; have RZ2 := Row.turn RZ t2 (fun q => q); have T2 := T0.then_no t2) | (guard_target =~ wpList _ _ _ ({ dst := _, op := Op.build 29 _, .. } :: _) _ _; refine wpList_buildG (by kernel_rfl) 29 rfl _ (hbd.out _) ?_) | (guard_target =~ wpList _ _ _ ({ dst := _, op := Op.store 29 _ _, .. } :: _) _ _; refine wpList_store_row rfl 29 (.tmp 4) (.tmp 13) rfl (w.heap.size + 1) Z rfl rfl 29 Z RZ2 iZ rfl HZo.out ?_))
      refine bodyPost_ret (v := .tuple #[.agg Z, .int .i64 20]) ?_ rfl ⟨rfl, T2.setRow _ _ (fun q => by omega)⟩
      exact results_cell_row_tmp (P := Tryz.prog) Tryz.results90 _ _ (w.heap.size + 1) 29 Z (0, 0) _ rfl (setRow_heap _ _ _ _ _ _ RZ2) Tryz.underlying29 rfl iZ
    | true =>
      have he : pathE t i A.length x.length = 0 := by unfold pathE; rw [if_neg h1, hfb]; rfl
      have hp : pathH t i A x = hashOf (2 :: (numE t.toNat ++ upH t.toNat i.toNat A (hashOf (0 :: x)))) := by unfold pathH; rw [he]; rfl
      have hq := of_decide_eq_true hfb
      obtain ⟨tn, rfl⟩ : ∃ tn : Nat, t = (tn : Int) := ⟨t.toNat, by omega⟩
      obtain ⟨ix, rfl⟩ : ∃ ix : Nat, i = (ix : Int) := ⟨i.toNat, by omega⟩
      simp only [Int.toNat_natCast] at hp hq
      rw [he, hp]
      have lf := hashOf_len (0 :: x)
      have hlf := fun W (T : Turn no w W) => leaf20 W (.slice xa x.length xc) x (hb.turn_no T) (hl.turn T (fun q => q)) (by have := T.size; omega) (by omega)
      have hcl := fun W (T : Turn no w W) => climb_any tn ix A a cap (hashOf (0 :: x)) W (by omega) (by omega) (by omega) hq.2.2.2.2 (hA.turn_no T) lf (hl.turn T (fun q => q)) (by have := T.size; omega)
      have lu := upH_len tn ix A (hashOf (0 :: x)) lf
      generalize upH tn ix A (hashOf (0 :: x)) = U at *
      have hro := fun W (T : Turn no w W) => rootOf_any W tn (by omega) U lu (hl.turn T (fun q => q)) (by have := T.size; omega)
      rw [show hb32 (hashOf (2 :: (numE tn ++ U))) = hv (2 :: (numE tn ++ U)) from rfl]
      have hs := hv_size (2 :: (numE tn ++ U))
      have o1 := hv_one (2 :: (numE tn ++ U))
      have hi := hv_info (2 :: (numE tn ++ U))
      have sf := hv_size (0 :: x)
      rw [show hb32 (hashOf (0 :: x)) = hv (0 :: x) from rfl, hn'] at hcl
      rw [hn'] at hfb ⊢
      rw [hfb] at hf
      have HLF := shut hlf
      have HCL := shut hcl
      have HRO := shut hro
      generalize hv (2 :: (numE tn ++ U)) = H at *
      generalize hv (0 :: x) = LF at *
      generalize hb32 U = UA at *
      generalize hb32 z32 = Z at *
      have HM : Shut (∀ m, x.length = m → (1048576 : Int) < (m : Int) → False) := fun m e q => by omega
      obtain ⟨m, hm⟩ : ∃ m, x.length = m := ⟨_, rfl⟩
      rw [hm] at HLF h1' ⊢
      have p0 := RP.cell 0 _ rfl
      have p1 := RP.cell 1 _ rfl
      have p2 := RP.cell 2 _ rfl
      clear hA hb hb2 he hp hn' hfb hlf hcl hro hq lf lu h1 hm HM
      go_enter Tryz.func90, Tryz.ntmps90
      go_upto_region 1 with fail
      try rw [hw0]
      clear hw0 hzv
      go_upto_region 5 with (go_at_call 107; refine hf.mono ?_; clear hf; rintro e w2 ⟨rfl, t2⟩)
      have RZ2 := Row.turn RZ t2 (fun q => q)
      have RP2 := Row.turn RP t2 (fun q => q)
      have T2 := T0.then_no t2
      clear p0 p1 p2
      refine wp_region_held_drew (S := fun w' => (∃ z, Row w' (w.heap.size + 1) z 29 ∧ z.size = 32) ∧ Row w' w.heap.size #[.int .i64 tn, .int .i64 ix, .slice a n cap] 47 ∧ Turn no w w') (by kernel_rfl) ⟨⟨Z, RZ2, HZ.out⟩, RP2, T2.drew⟩ (fun hHeld => ?_)
      refine' wpAnyH_take (i := 0) (v := .pointer (some ⟨w.heap.size, 0, none⟩)) rfl (by kernel_rfl) (by kernel_rfl) (by kernel_rfl) (fun _ _ _ h => h) (Or.inl ⟨by kernel_rfl, fun W hW => ?y1⟩) hHeld ?r1
      · go_simp
      refine' wpAnyH_take (i := 1) (v := .int .i64 tn) rfl (by kernel_rfl) (by kernel_rfl) (by kernel_rfl) (fun _ _ _ h => h) (Or.inl ⟨by kernel_rfl, fun W hW => ?y2⟩) hHeld ?r2
      · have z := hW.2.1.cell 0 _ rfl
        go_simp
      refine' wpAnyH_take (i := 2) (v := .pointer (some ⟨w.heap.size, 0, none⟩)) rfl (by kernel_rfl) (by kernel_rfl) (by kernel_rfl) (fun _ _ _ h => h) (Or.inl ⟨by kernel_rfl, fun W hW => ?y3⟩) hHeld ?r3
      · go_simp
      refine' wpAnyH_take (i := 3) (v := .int .i64 tn) rfl (by kernel_rfl) (by kernel_rfl) (by kernel_rfl) (fun _ _ _ h => h) (Or.inl ⟨by kernel_rfl, fun W hW => ?y4⟩) hHeld ?r4
      · have z := hW.2.1.cell 0 _ rfl
        go_simp
      refine' wpAnyH_take (i := 4) (v := .pointer (some ⟨w.heap.size, 1, none⟩)) rfl (by kernel_rfl) (by kernel_rfl) (by kernel_rfl) (fun _ _ _ h => h) (Or.inl ⟨by kernel_rfl, fun W hW => ?y5⟩) hHeld ?r5
      · go_simp
      refine' wpAnyH_take (i := 5) (v := .int .i64 ix) rfl (by kernel_rfl) (by kernel_rfl) (by kernel_rfl) (fun _ _ _ h => h) (Or.inl ⟨by kernel_rfl, fun W hW => ?y6⟩) hHeld ?r6
      · have z := hW.2.1.cell 1 _ rfl
        go_simp
      refine' wpAnyH_take (i := 6) (v := .pointer (some ⟨w.heap.size, 2, none⟩)) rfl (by kernel_rfl) (by kernel_rfl) (by kernel_rfl) (fun _ _ _ h => h) (Or.inl ⟨by kernel_rfl, fun W hW => ?y7⟩) hHeld ?r7
      · go_simp
      refine' wpAnyH_take (i := 7) (v := .slice a n cap) rfl (by kernel_rfl) (by kernel_rfl) (by kernel_rfl) (fun _ _ _ h => h) (Or.inl ⟨by kernel_rfl, fun W hW => ?y8⟩) hHeld ?r8
      · have z := hW.2.1.cell 2 _ rfl
        go_simp
      refine' wpAnyH_take (i := 8) (v := .slice xa m xc) rfl (by kernel_rfl) (by kernel_rfl) (by kernel_rfl) (fun _ _ _ h => h) (Or.inl ⟨by kernel_rfl, fun W hW => ?y9⟩) hHeld ?r9
      · go_simp
      refine wpAnyH_ready (rs := [9]) (by kernel_rfl) (by simp) ?_
      refine AllReadyH.cons rfl (fun K hK => ?_) AllReadyH.nil
      go_simp
      refine (HLF.out _ hHeld.2.2).mono ?_
      rintro e w3 ⟨rfl, t3⟩
      refine hK.out _ _ ⟨by obtain ⟨z, hz1, hz2⟩ := hHeld.1; exact ⟨z, Row.turn hz1 t3 (fun q => q), hz2⟩, Row.turn hHeld.2.1 t3 (fun q => q), hHeld.2.2.then_no t3⟩ (fun hHeld => ?_)
      clear hK
      refine wpAnyH_ready (rs := [10]) (by kernel_rfl) (by simp) ?_
      refine AllReadyH.cons rfl (fun K hK => ?_) AllReadyH.nil
      go_simp
      refine (HCL.out _ hHeld.2.2).mono ?_
      rintro e w4 ⟨rfl, t4⟩
      refine hK.out _ _ ⟨by obtain ⟨z, hz1, hz2⟩ := hHeld.1; exact ⟨z, Row.turn hz1 t4 (fun q => q), hz2⟩, Row.turn hHeld.2.1 t4 (fun q => q), hHeld.2.2.then_no t4⟩ (fun hHeld => ?_)
      clear hK
      refine wpAnyH_ready (rs := [11]) (by kernel_rfl) (by simp) ?_
      refine AllReadyH.cons rfl (fun K hK => ?_) AllReadyH.nil
      go_simp
      refine (HRO.out _ hHeld.2.2).mono ?_
      rintro e w6 ⟨rfl, t6⟩
      refine hK.out _ _ ⟨by obtain ⟨z, hz1, hz2⟩ := hHeld.1; exact ⟨z, Row.turn hz1 t6 (fun q => q), hz2⟩, Row.turn hHeld.2.1 t6 (fun q => q), hHeld.2.2.then_no t6⟩ (fun hHeld => ?_)
      clear hK
      refine wpAnyH_ready (rs := [12]) (by kernel_rfl) (by simp) ?_
      refine AllReadyH.cons rfl (fun K hK => ?_) AllReadyH.nil
      obtain ⟨⟨z6, RZ6, hz6⟩, RP6, T6⟩ := hHeld
      rw [if_pos (by kernel_rfl)]
      refine wp_store_row 29 _ _ rfl (w.heap.size + 1) H rfl rfl 29 z6 RZ6 hi (by omega) o1 ?_
      have hz' : (w6.setRow (w.heap.size + 1) H).heap[w.heap.size + 1]? = some (.cells H 29 (0, 0)) := setRow_heap _ _ _ _ _ _ RZ6
      have T7 : Turn no w (w6.setRow (w.heap.size + 1) H) := T6.setRow _ _ (fun q => by omega)
      refine hK.out _ _ ⟨⟨H, hz', hs⟩, Row.setOther RP6 (by omega) _, T7⟩ (fun hHeld => ?_)
      clear hK
      refine' wpAnyH_take (i := 13) (v := .int .i64 0) rfl (by kernel_rfl) (by kernel_rfl) (by kernel_rfl) (fun _ _ _ h => h) (Or.inl ⟨by kernel_rfl, fun W hW => ?y10⟩) hHeld ?r10
      · go_simp
      refine wpAnyH_done (by kernel_rfl) ?_ _
      go_wp2_with fail
      refine bodyPost_ret (v := .tuple #[.agg H, .int .i64 0]) ?_ rfl ⟨rfl, T7⟩
      exact results_cell_row_tmp (P := Tryz.prog) Tryz.results90 _ _ (w.heap.size + 1) 29 H (0, 0) _ rfl hz' Tryz.underlying29 rfl hi
end Go.Proofs.YtlacfenenbblaaaGreatDoor



/- The document's Path; Verify of both. -/
namespace Go.Proofs.YtlacfenenbblaaaGreatDoor
open Go.RowKit
set_option linter.unusedVariables false

set_option maxRecDepth 100000 in
set_option maxHeartbeats 4000000 in
theorem rpath27 (w : World) (t i : Int) (A : List (List UInt8)) (a : Option Addr) (cap : Nat) (hA : HsAt w a cap A) (v : Value) (x : List UInt8) (hb : Bs w v x) (hl : Laid0 w) (hsz : 2 ≤ w.heap.size) :
    Calls Tryz.prog 10 #[.agg #[.int .i64 t, .int .i64 i, .slice a A.length cap], v] w fun e w' => e = .returned (.tuple #[.agg (hb32 (pathH t i A x)), .int .i64 (pathE t i A.length x.length)]) ∧ Turn no w w' := by
  obtain ⟨n, hn⟩ : ∃ n, Hid (A.length = n) := ⟨_, rfl⟩
  have hn' := hn.out
  have hb2 := hb
  obtain ⟨xa, xc, rfl⟩ := hb2.slice
  have HZ : Shut ((hb32 z32).size = 32) := hb32_size z32_len
  have HZo := shut (hb32_one z32)
  have iZ := hb32_info z32_len
  have hzv := zero35v
  have hbd := shut bld35
  have T0 : Turn no w ((w.alloc (.cells #[.int .i64 t, .int .i64 i, .slice a n cap] 47)).alloc (.cells (hb32 z32) 29)) := ((Turn.refl no w).alloc _).alloc _
  have RP : Row ((w.alloc (.cells #[.int .i64 t, .int .i64 i, .slice a n cap] 47)).alloc (.cells (hb32 z32) 29)) w.heap.size #[.int .i64 t, .int .i64 i, .slice a n cap] 47 := (Row.new w _ 47).alloc _
  have RZ : Row ((w.alloc (.cells #[.int .i64 t, .int .i64 i, .slice a n cap] 47)).alloc (.cells (hb32 z32) 29)) (w.heap.size + 1) (hb32 z32) 29 := Row.newAt _ _ _ _ (by simp)
  obtain ⟨w0, hw0⟩ : ∃ w0, (w.alloc (.cells #[.int .i64 t, .int .i64 i, .slice a n cap] 47)).alloc (.cells (hb32 z32) 29) = w0 := ⟨_, rfl⟩
  rw [hw0] at T0 RP RZ
  have hf := rfits_any w0 t i a n cap
  by_cases h1 : 1048576 < x.length
  · have he : pathE t i A.length x.length = 4 := if_pos h1
    have hp : pathH t i A x = z32 := by unfold pathH; rw [he]; rfl
    rw [he, hp, hn']
    generalize hb32 z32 = Z at *
    have h1' : (1048576 : Int) < (x.length : Int) := by omega
    generalize x.length = m at *
    clear hf hA hb hb2 he hp hn'
    go_enter Tryz.func10, Tryz.ntmps10
    go_upto_region 1 with fail
    try rw [hw0]
    clear hw0 hzv
    go_wp2_with (first | (guard_target =~ wpList _ _ _ ({ dst := _, op := Op.build 29 _, .. } :: _) _ _; refine wpList_buildG (by kernel_rfl) 29 rfl _ (hbd.out _) ?_) | (guard_target =~ wpList _ _ _ ({ dst := _, op := Op.store 29 _ _, .. } :: _) _ _; refine wpList_store_row rfl 29 (.tmp 4) (.tmp 13) rfl (w.heap.size + 1) Z rfl rfl 29 Z RZ iZ rfl HZo.out ?_))
    refine bodyPost_ret (v := .tuple #[.agg Z, .int .i64 4]) ?_ rfl ⟨rfl, T0.setRow _ _ (fun q => by omega)⟩
    exact results_cell_row_tmp (P := Tryz.prog) Tryz.results10 _ _ (w.heap.size + 1) 29 Z (0, 0) _ rfl (setRow_heap _ _ _ _ _ _ RZ) Tryz.underlying29 rfl iZ
  · have h1' : ¬ (1048576 : Int) < (x.length : Int) := by omega
    cases hfb : fitsB t i A.length with
    | false =>
      have he : pathE t i A.length x.length = 20 := by unfold pathE; rw [if_neg h1, hfb]; rfl
      have hp : pathH t i A x = z32 := by unfold pathH; rw [he]; rfl
      rw [he, hp, hn']
      rw [hn'] at hfb
      rw [hfb] at hf
      generalize hb32 z32 = Z at *
      generalize x.length = m at *
      have p0 := RP.cell 0 _ rfl
      have p1 := RP.cell 1 _ rfl
      have p2 := RP.cell 2 _ rfl
      clear hA hb hb2 he hp hn' hfb
      go_enter Tryz.func10, Tryz.ntmps10
      go_upto_region 1 with fail
      try rw [hw0]
      clear hw0 hzv
      go_wp2_with (first | (go_at_call 34; refine hf.mono ?_; clear hf; rintro e w2 ⟨rfl, t2⟩; have RZ2 := Row.turn RZ t2 (fun q => q); have T2 := T0.then_no t2) | (guard_target =~ wpList _ _ _ ({ dst := _, op := Op.build 29 _, .. } :: _) _ _; refine wpList_buildG (by kernel_rfl) 29 rfl _ (hbd.out _) ?_) | (guard_target =~ wpList _ _ _ ({ dst := _, op := Op.store 29 _ _, .. } :: _) _ _; refine wpList_store_row rfl 29 (.tmp 4) (.tmp 18) rfl (w.heap.size + 1) Z rfl rfl 29 Z RZ2 iZ rfl HZo.out ?_))
      refine bodyPost_ret (v := .tuple #[.agg Z, .int .i64 20]) ?_ rfl ⟨rfl, T2.setRow _ _ (fun q => by omega)⟩
      exact results_cell_row_tmp (P := Tryz.prog) Tryz.results10 _ _ (w.heap.size + 1) 29 Z (0, 0) _ rfl (setRow_heap _ _ _ _ _ _ RZ2) Tryz.underlying29 rfl iZ
    | true =>
      have he : pathE t i A.length x.length = 0 := by unfold pathE; rw [if_neg h1, hfb]; rfl
      have hp : pathH t i A x = hashOf (2 :: (numE t.toNat ++ upH t.toNat i.toNat A (hashOf (0 :: x)))) := by unfold pathH; rw [he]; rfl
      have hq := of_decide_eq_true hfb
      obtain ⟨tn, rfl⟩ : ∃ tn : Nat, t = (tn : Int) := ⟨t.toNat, by omega⟩
      obtain ⟨ix, rfl⟩ : ∃ ix : Nat, i = (ix : Int) := ⟨i.toNat, by omega⟩
      simp only [Int.toNat_natCast] at hp hq
      rw [he, hp]
      have lf := hashOf_len (0 :: x)
      have hlf := fun W (T : Turn no w W) => leaf21 W (.slice xa x.length xc) x (hb.turn_no T) (hl.turn T (fun q => q)) (by have := T.size; omega) (by omega)
      have hcl := fun W (T : Turn no w W) => up_any tn ix A a cap (hashOf (0 :: x)) W (by omega) (by omega) (by omega) hq.2.2.2.2 (hA.turn_no T) lf (hl.turn T (fun q => q)) (by have := T.size; omega)
      have lu := upH_len tn ix A (hashOf (0 :: x)) lf
      generalize upH tn ix A (hashOf (0 :: x)) = U at *
      have hro := fun W (T : Turn no w W) => rootText_any W tn (by omega) U lu
      have hsu := fun W (T : Turn no w W) v (hb : Bs W v (2 :: (numE tn ++ U))) => rsum_all W v _ hb (hl.turn T (fun q => q)) (by have := T.size; omega) (by simp [numE_len, lu])
      rw [show hb32 (hashOf (2 :: (numE tn ++ U))) = hv (2 :: (numE tn ++ U)) from rfl]
      have hs := hv_size (2 :: (numE tn ++ U))
      have o1 := hv_one (2 :: (numE tn ++ U))
      have hi := hv_info (2 :: (numE tn ++ U))
      have sf := hv_size (0 :: x)
      rw [show hb32 (hashOf (0 :: x)) = hv (0 :: x) from rfl, hn'] at hcl
      rw [hn'] at hfb ⊢
      rw [hfb] at hf
      have HLF := shut hlf
      have HCL := shut hcl
      have HRO := shut hro
      have HSU := shut hsu
      clear hsu
      have HRO : Shut (∀ W, Turn no w W → Calls Tryz.prog 16 #[.int .i64 tn, .agg (hb32 U)] W fun e w' => ∃ v, e = .returned v ∧ Bs w' v (2 :: (numE tn ++ U)) ∧ Turn no W w') := fun W T => (HRO.out W T).mono (fun e w' ⟨v, e1, o, t⟩ => ⟨v, e1, o.bs, t⟩)
      have sU := hb32_size lu
      have oU := hb32_one U
      have iU := hb32_info lu
      have oF := hv_one (0 :: x)
      have iF := hv_info (0 :: x)
      generalize hv (2 :: (numE tn ++ U)) = H at *
      generalize (2 :: (numE tn ++ U)) = TX at *
      generalize hv (0 :: x) = LF at *
      generalize hb32 U = UA at *
      obtain ⟨Z, hZ⟩ : ∃ Z, hb32 z32 = Z := ⟨_, rfl⟩
      rw [hZ] at HZ HZo iZ hzv hbd RZ hw0
      have HM : Shut (∀ m, x.length = m → (1048576 : Int) < (m : Int) → False) := fun m e q => by omega
      obtain ⟨m, hm⟩ : ∃ m, x.length = m := ⟨_, rfl⟩
      rw [hm] at HLF h1' ⊢
      have p0 := RP.cell 0 _ rfl
      have p1 := RP.cell 1 _ rfl
      have p2 := RP.cell 2 _ rfl
      clear hA hb hb2 he hp hn' hfb hlf hcl hro hq lf lu h1 hm HM
      go_enter Tryz.func10, Tryz.ntmps10
      go_upto_region 1 with fail
      try rw [hw0]
      clear hw0 hzv
      go_upto_region 6 with (go_at_call 34; refine hf.mono ?_; clear hf; rintro e w2 ⟨rfl, t2⟩)
      have RZ2 := Row.turn RZ t2 (fun q => q)
      have RP2 := Row.turn RP t2 (fun q => q)
      have T2 := T0.then_no t2
      have hlf := HLF.out w2 T2
      have g1 := RZ2.lt
      have hzv := zero35v
      rw [hZ] at hzv
      clear p0 p1 p2 HLF RZ RP T0 t2
      go_upto_region 7 with (first | (go_at_call 35; refine hlf.mono ?_; clear hlf; rintro e w3 ⟨rfl, t3⟩) | (guard_target =~ wpList _ _ _ ({ dst := _, op := Op.store 29 _ _, .. } :: _) _ _; refine wpList_store_anyN rfl rfl 29 (.tmp 7) (.tmp 20) rfl _ LF rfl rfl 29 Z (Row.new _ Z 29) iF (by rw [HZ.out, sf]) oF ?_; intro w4 R4 t4))
      have T34 : Turn (fun q => q = w3.heap.size) w3 w4 := ((Turn.refl no w3).alloc _).of_no.trans t4 (fun _ _ e => e)
      have T24 : Turn no w2 w4 := t3.trans T34 (fun i hi e => by have := t3.size; omega)
      have RZ4 := Row.turn RZ2 T24 (fun q => q)
      have RP4 := Row.turn RP2 T24 (fun q => q)
      have T4 := T2.then_no T24
      have hcl := HCL.out w4 T4
      have p0 := Row.cell RP4 0 _ rfl
      have p1 := Row.cell RP4 1 _ rfl
      have p2 := Row.cell RP4 2 _ rfl
      clear HCL RZ2 RP2 T34 T24 t3 t4
      generalize w3.heap.size = g7 at *
      go_upto_region 8 with (first | (guard_target =~ wpList _ _ _ ({ dst := _, op := Op.load 29 _, .. } :: _) _ _; refine wpList_load_row rfl 29 (.tmp 7) rfl g7 rfl 29 LF _ _ R4 Tryz.underlying29 rfl iF ?_) | (go_at_call 36; refine hcl.mono ?_; clear hcl; rintro e w5 ⟨rfl, t5⟩) | (guard_target =~ wpList _ _ _ ({ dst := _, op := Op.store 29 _ _, .. } :: _) _ _; refine wpList_store_anyN rfl rfl 29 (.tmp 8) (.tmp 28) rfl _ UA rfl rfl 29 Z (Row.new _ Z 29) iU (by rw [HZ.out, sU]) oU ?_; intro w6 R6 t6))
      have T56 : Turn (fun q => q = w5.heap.size) w5 w6 := ((Turn.refl no w5).alloc _).of_no.trans t6 (fun _ _ e => e)
      have T46 : Turn no w4 w6 := t5.trans T56 (fun i hi e => by have := t5.size; omega)
      have RZ6 := Row.turn RZ4 T46 (fun q => q)
      have RP6 := Row.turn RP4 T46 (fun q => q)
      have T6 := T4.then_no T46
      have hro := HRO.out w6 T6
      have q0 := Row.cell RP6 0 _ rfl
      clear HRO RZ4 RP4 T56 T46 t5 t6 p0 p1 p2 R4
      generalize w5.heap.size = g8 at *
      go_upto_region 9 with (first | (guard_target =~ wpList _ _ _ ({ dst := _, op := Op.load 29 _, .. } :: _) _ _; refine wpList_load_row rfl 29 (.tmp 8) rfl g8 rfl 29 UA _ _ R6 Tryz.underlying29 rfl iU ?_) | (go_at_call 16; refine hro.mono ?_; clear hro; rintro e w7 ⟨v7, rfl, b7, t7⟩; have hsu := HSU.out w7 (T6.then_no t7) v7 b7) | (go_at_call 12; refine hsu.mono ?_; clear hsu; rintro e w8 ⟨rfl, t8⟩) | (guard_target =~ wpList _ _ _ ({ dst := _, op := Op.store 29 _ _, .. } :: _) _ _; refine wpList_store_anyN rfl rfl 29 (.tmp 9) (.tmp 33) rfl _ H rfl rfl 29 Z (Row.new _ Z 29) hi (by rw [HZ.out, hs]) o1 ?_; intro w9 R9 t9))
      have T89 : Turn (fun q => q = w8.heap.size) w8 w9 := ((Turn.refl no w8).alloc _).of_no.trans t9 (fun _ _ e => e)
      have T69 : Turn no w6 w9 := (t7.then_no t8).trans T89 (fun i hi e => by have := (t7.then_no t8).size; omega)
      have RZ9 := Row.turn RZ6 T69 (fun q => q)
      have T9 := T6.then_no T69
      clear T89 T69 RZ6 RP6 t7 t8 t9 q0
      generalize w8.heap.size = g9 at *
      go_wp2_with (first | (guard_target =~ wpList _ _ _ ({ dst := _, op := Op.load 29 _, .. } :: _) _ _; refine wpList_load_row rfl 29 (.tmp 9) rfl g9 rfl 29 H _ _ R9 Tryz.underlying29 rfl hi ?_) | (guard_target =~ wpList _ _ _ ({ dst := _, op := Op.store 29 _ _, .. } :: _) _ _; refine wpList_store_row rfl 29 (.tmp 4) (.tmp 34) rfl (w.heap.size + 1) H rfl rfl 29 Z RZ9 hi (by rw [HZ.out, hs]) o1 ?_))
      refine bodyPost_ret (v := .tuple #[.agg H, .int .i64 0]) ?_ rfl ⟨rfl, T9.setRow _ _ (fun q => by omega)⟩
      exact results_cell_row_tmp (P := Tryz.prog) Tryz.results10 _ _ (w.heap.size + 1) 29 H (0, 0) _ rfl (setRow_heap _ _ _ _ _ _ RZ9) Tryz.underlying29 rfl hi
/-- What Verify answers. -/
def verE (rt : List UInt8) (t i : Int) (A : List (List UInt8)) (x : List UInt8) : Int := if pathE t i A.length x.length ≠ 0 then pathE t i A.length x.length else if pathH t i A x = rt then 0 else 21
set_option maxRecDepth 100000 in
set_option maxHeartbeats 4000000 in
theorem verify26 (w : World) (rt : List UInt8) (hrt : rt.length = 32) (t i : Int) (A : List (List UInt8)) (a : Option Addr) (cap : Nat) (hA : HsAt w a cap A) (v : Value) (x : List UInt8) (hb : Bs w v x) (hl : Laid1 w) (hsz : 2 ≤ w.heap.size) :
    Calls Tryz.prog 65 #[.agg (hb32 rt), .agg #[.int .i64 t, .int .i64 i, .slice a A.length cap], v] w fun e w' => e = .returned (.int .i64 (verE rt t i A x)) ∧ Turn no w w' := by
  have sR := hb32_size hrt
  have iR := hb32_info hrt
  have lp := pathH_len t i A x
  have sP := hb32_size lp
  have oP := hb32_one (pathH t i A x)
  have iP := hb32_info lp
  obtain ⟨w0, hw0⟩ : ∃ w0, (w.alloc (.cells (hb32 rt) 29)).alloc (.cells #[.int .i64 t, .int .i64 i, .slice a A.length cap] 47) = w0 := ⟨_, rfl⟩
  have T0 : Turn no w w0 := by rw [← hw0]; exact ((Turn.refl no w).alloc _).alloc _
  have RR : Row w0 w.heap.size (hb32 rt) 29 := by rw [← hw0]; exact (Row.new w _ 29).alloc _
  have RP : Row w0 (w.heap.size + 1) #[.int .i64 t, .int .i64 i, .slice a A.length cap] 47 := by rw [← hw0]; exact Row.newAt _ _ _ _ (by simp)
  have hp := path25 w0 t i A a cap (hA.turn_no T0) v x (hb.turn_no T0) (hl.turn T0 (fun q => q)) (by have := T0.size; omega)
  obtain ⟨xa, xc, rfl⟩ := hb.slice
  have hzv := zero35v
  have HZ : Shut ((hb32 z32).size = 32) := hb32_size z32_len
  have hq : ∀ W, (Op.equalIn 10000 29 (.agg (hb32 (pathH t i A x))) (.agg (hb32 rt))).run Tryz.prog W = .ok (pathH t i A x == rt) W := fun W => eqIn35 W _ _ lp hrt
  have HQ := shut hq
  have HE : Shut (verE rt t i A x = if pathE t i A.length x.length ≠ 0 then pathE t i A.length x.length else if (pathH t i A x == rt) = true then 0 else 21) := by
    show _ = _
    unfold verE
    by_cases h : pathH t i A x = rt
    · rw [h]; simp
    · have h2 : (pathH t i A x == rt) = false := by simpa using h
      rw [h2]
      simp [h]
  generalize verE rt t i A x = VE at *
  generalize (pathH t i A x == rt) = bb at *
  generalize pathE t i A.length x.length = pe at *
  generalize hb32 (pathH t i A x) = PH at *
  generalize hb32 rt = RT at *
  generalize hb32 z32 = Z at *
  generalize A.length = n at *
  generalize x.length = m at *
  have p0 := RP.cell 0 _ rfl
  have p1 := RP.cell 1 _ rfl
  have p2 := RP.cell 2 _ rfl
  clear hA hb hq lp hl
  go_enter Tryz.func65, Tryz.ntmps65
  go_upto_region 1 with fail
  try rw [hw0]
  clear hw0
  go_upto_region 2 with (first | (go_at_call 90; refine hp.mono ?_; clear hp; rintro e w1 ⟨rfl, t1⟩) | (guard_target =~ wpList _ _ _ ({ dst := _, op := Op.store 29 _ _, .. } :: _) _ _; refine wpList_store_anyN rfl rfl 29 (.tmp 7) (.tmp 13) rfl _ PH rfl rfl 29 Z (Row.new _ Z 29) iP (by rw [HZ.out, sP]) oP ?_; intro w2 R2 t2))
  have T12 : Turn (fun q => q = w1.heap.size) w1 w2 := ((Turn.refl no w1).alloc _).of_no.trans t2 (fun _ _ e => e)
  have T02 : Turn no w0 w2 := t1.trans T12 (fun i hi e => by have := t1.size; omega)
  have RR2 := Row.turn RR T02 (fun q => q)
  have TT := T0.then_no T02
  clear p0 p1 p2 RR RP T0 T02 T12 t1 t2 hzv
  generalize w1.heap.size = g7 at *
  by_cases hpe : pe = 0
  · subst hpe
    have HE2 : Shut (VE = if bb = true then 0 else 21) := by show _ = _; rw [HE.out]; rfl
    have hq := HQ.out
    cases bb with
    | true =>
      go_wp2_with (first | (guard_target =~ wpList _ _ _ ({ dst := some 18, op := Op.load 29 _, .. } :: _) _ _; refine wpList_load_row rfl 29 (.tmp 7) rfl g7 rfl 29 PH _ _ R2 Tryz.underlying29 rfl iP ?_) | (guard_target =~ wpList _ _ _ ({ dst := some 19, op := Op.load 29 _, .. } :: _) _ _; refine wpList_load_row rfl 29 (.tmp 3) rfl w.heap.size rfl 29 RT _ _ RR2 Tryz.underlying29 rfl iR ?_))
      go_ret
      exact ⟨by rw [HE2.out]; rfl, TT⟩
    | false =>
      go_wp2_with (first | (guard_target =~ wpList _ _ _ ({ dst := some 18, op := Op.load 29 _, .. } :: _) _ _; refine wpList_load_row rfl 29 (.tmp 7) rfl g7 rfl 29 PH _ _ R2 Tryz.underlying29 rfl iP ?_) | (guard_target =~ wpList _ _ _ ({ dst := some 19, op := Op.load 29 _, .. } :: _) _ _; refine wpList_load_row rfl 29 (.tmp 3) rfl w.heap.size rfl 29 RT _ _ RR2 Tryz.underlying29 rfl iR ?_))
      go_ret
      exact ⟨by rw [HE2.out]; rfl, TT⟩
  · have HE2 : Shut (VE = pe) := by show _ = _; rw [HE.out, if_pos hpe]
    have hpe' : (pe != 0) = true := by simpa using hpe
    go_wp2_with fail
    go_ret
    exact ⟨by rw [HE2.out]; rfl, TT⟩
end Go.Proofs.YtlacfenenbblaaaGreatDoor


/- A list of digests as cells; appends; same. -/
namespace Go.Proofs.YtlacfenenbblaaaGreatDoor
open Go.RowKit
set_option linter.unusedVariables false

theorem Row.src1 {P : Program} {t e' e : TypeId} {size : Nat} (hk : P.underlying t = some (.slice e')) {W : World} {g : Nat} {X : Array Value} (h : Row W g X e) (hX : X.size = size) (h1 : ∀ u ∈ X.toList, u.oneCell' = true) : Src P size t (.slice (some ⟨g, 0, none⟩) 1 1) 1 X.toList W := by
  refine Src.ofSlice W hk _ _ _ _ (by simp [hX]) (fun j u hu => ?_) h1
  rw [Addr.add_lit, Nat.zero_add]
  exact h.cell j u (by simpa using hu)
section
variable {P : Program} {t e : TypeId} {z : Value} {size bytes : Nat}
/-- The first append: onto what is empty. -/
theorem app_first (ht : P.underlying t = some (.slice e)) (hinf : (P.info? e).map (fun i => (i.zero, i.size, i.bytes)) = some (some z, size, bytes)) (hz : z.cells.size = size) (hsz : 0 < size)
    {w W0 : World} (T : Turn no w W0) {v0 : Value} (O : OwnN W0 e size v0 0 []) (f : ∀ g, v0.ownBlock = some g → w.heap.size ≤ g) {vs : Value} {n : Nat} {news : List Value} (hs : Src P size t vs n news W0) (hb : (n + 1) * bytes ≤ 140737488355328) (hm : n + 1 ≤ maxLen) :
    ∃ v1 w1, (Builtin.append_ #[t, t] t #[v0, vs]).run P W0 = .ok v1 w1 ∧ OwnN w1 e size v1 n news ∧ (∀ g, v1.ownBlock = some g → w.heap.size ≤ g) ∧ Turn no w w1 ∧ Turn (fun k => v0.ownBlock = some k) W0 w1 ∧ ∃ a c, v1 = .slice a n c := by
  obtain ⟨v1, w1, hr, O1, G1⟩ := run_append_srcN (P := P) ht hinf hz hsz t W0 v0 0 [] O vs n news hs (Nat.le_trans (Nat.mul_le_mul_right _ (by omega)) hb) (by omega)
  rw [Nat.zero_add, List.nil_append] at O1
  obtain ⟨a, c, e1, _⟩ := O1.form
  exact ⟨v1, w1, hr, O1, G1.fresh f T.size, T.trans G1.turn (fun k hk q => by have := f k q; omega), G1.turn, a, c, e1⟩
/-- The second: one element. -/
theorem app_second (ht : P.underlying t = some (.slice e)) (hinf : (P.info? e).map (fun i => (i.zero, i.size, i.bytes)) = some (some z, size, bytes)) (hz : z.cells.size = size) (hsz : 0 < size)
    {w W1 : World} (T : Turn no w W1) {v1 : Value} {n : Nat} {news : List Value} (O : OwnN W1 e size v1 n news) (f : ∀ g, v1.ownBlock = some g → w.heap.size ≤ g) {g : Nat} {X : Array Value} (hR : Row W1 g X e) (hX : X.size = size) (h1 : ∀ u ∈ X.toList, u.oneCell' = true) (hb : (n + 1) * bytes ≤ 140737488355328) (hm : n + 1 ≤ maxLen) :
    ∃ v2 w2, (Builtin.append_ #[t, t] t #[v1, .slice (some ⟨g, 0, none⟩) 1 1]).run P W1 = .ok v2 w2 ∧ OwnN w2 e size v2 (n + 1) (news ++ X.toList) ∧ Turn no w w2 ∧ ∃ g2 c2, v2 = .slice (some ⟨g2, 0, none⟩) (n + 1) c2 ∧ n + 1 ≤ c2 ∧ w.heap.size ≤ g2 := by
  obtain ⟨v2, w2, hr, O2, G2⟩ := run_append_srcN (P := P) ht hinf hz hsz t W1 v1 n news O (.slice (some ⟨g, 0, none⟩) 1 1) 1 X.toList (hR.src1 ht hX h1) hb hm
  refine ⟨v2, w2, hr, O2, T.trans G2.turn (fun k hk q => by have := f k q; omega), ?_⟩
  rcases O2.2 with ⟨_, q⟩ | ⟨g2, c2, cur, e2, _, _, h2, _⟩
  · omega
  · exact ⟨g2, c2, e2, h2, G2.fresh f T.size g2 (by rw [e2]; rfl)⟩
end
def hsF (l : List (List UInt8)) : List Value := l.flatMap (·.map bv)
theorem hsF_len : ∀ (l : List (List UInt8)), (∀ m ∈ l, m.length = 32) → (hsF l).length = l.length * 32
  | [], _ => rfl
  | m :: r, h => by
    rw [hsF, List.flatMap_cons, List.length_append, List.length_map, h m (by simp), ← hsF, hsF_len r (fun x hx => h x (by simp [hx])), List.length_cons]
    omega
theorem hsF_append (a b : List (List UInt8)) : hsF (a ++ b) = hsF a ++ hsF b := by simp [hsF]
theorem hsF_at : ∀ (l : List (List UInt8)), (∀ m ∈ l, m.length = 32) → ∀ (j : Nat) (m : List UInt8), l[j]? = some m → ∀ i, i < 32 → (hsF l)[j * 32 + i]? = (m.map bv)[i]?
  | x :: r, hk, 0, m, h, i, hi => by
    simp at h
    subst h
    rw [hsF, List.flatMap_cons, Nat.zero_mul, Nat.zero_add, List.getElem?_append_left (by rw [List.length_map, hk _ (by simp)]; exact hi)]
  | x :: r, hk, j + 1, m, h, i, hi => by
    have hx := hk x (by simp)
    rw [hsF, List.flatMap_cons, List.getElem?_append_right (by rw [List.length_map]; omega)]
    have := hsF_at r (fun x hx => hk x (by simp [hx])) j m (by simpa using h) i hi
    rw [hsF] at this
    rw [← this, List.length_map, hx]
    congr 1
    omega
theorem hsF_one (l : List (List UInt8)) : ∀ u ∈ hsF l, u.oneCell' = true := by
  intro u hu
  obtain ⟨m, _, hu⟩ := List.mem_flatMap.1 hu
  obtain ⟨b, _, rfl⟩ := List.mem_map.1 hu
  rfl
theorem HsAt.src {w : World} {a : Option Addr} {cap : Nat} {l : List (List UInt8)} (h : HsAt w a cap l) : Src Tryz.prog 32 45 (.slice a l.length cap) l.length (hsF l) w := by
  cases a with
  | none =>
    have : l = [] := by
      cases l with
      | nil => rfl
      | cons m r =>
        obtain ⟨b, off, e, _⟩ := h.cells 0 m rfl
        cases e
    subst this
    exact Src.ofNil w Tryz.underlying45 cap
  | some a =>
    refine Src.ofSlice w Tryz.underlying45 a l.length cap (hsF l) (hsF_len l h.ok) (fun j u hu => ?_) (hsF_one l)
    have hj : j < l.length * 32 := by rw [← hsF_len l h.ok]; exact (List.getElem?_eq_some_iff.1 hu).1
    have hm : l[j / 32]? = some (l[j / 32]'(by omega)) := List.getElem?_eq_getElem (by omega)
    obtain ⟨b, off, e, c⟩ := h.cells _ _ hm
    cases e
    have hx := hsF_at l h.ok (j / 32) _ hm (j % 32) (by omega)
    have ej : j / 32 * 32 + j % 32 = j := by omega
    rw [ej, hu] at hx
    rw [Addr.add_lit]
    have := c (j % 32) u hx.symm
    rwa [show off + j / 32 * 32 + j % 32 = off + j by omega] at this
theorem OwnN.hsAt {w : World} {v : Value} {n : Nat} {l : List (List UInt8)} (h : OwnN w 29 32 v n (hsF l)) (hn : n = l.length) (hok : ∀ m ∈ l, m.length = 32) : ∃ a cap, v = .slice a n cap ∧ HsAt w a cap l := by
  obtain ⟨a, cap, rfl, ha, h1, h2, h3⟩ := h.form
  refine ⟨a, cap, rfl, by omega, h3, hok, fun j m hj => ?_⟩
  have hjl := (List.getElem?_eq_some_iff.1 hj).1
  rcases h.2 with ⟨_, q⟩ | ⟨g, cap', cur, e, _⟩
  · omega
  · cases e
    refine ⟨g, 0, rfl, fun i v hi => ?_⟩
    have hi18 : i < 32 := by have := (List.getElem?_eq_some_iff.1 hi).1; rwa [List.length_map, hok m (List.mem_of_getElem? hj)] at this
    have := World.ownsRow.cells h (g := g) rfl (j * 32 + i) v (by rw [hsF_at l hok j m hj i hi18]; exact hi)
    simpa [Addr.add_lit] using this
end Go.Proofs.YtlacfenenbblaaaGreatDoor


