/- inOrder. -/
import Derived.Test.YtcdogciacchigabN0
import Derived.Laws.Cover1
import Derived.Sort.Walk0
namespace Go.Proofs.Ytcdogciacchigab
open Go.RowKit Go.Maps
set_option linter.unusedVariables false

theorem shut {p : Prop} (h : p) : Shut p := h
theorem leq9 (a b : Nm) (W : World) : (binOp .leq 9 (.string ⟨a.toArray⟩) (.string ⟨b.toArray⟩)).run Try.prog W = .ok (.bool (decide (a ≤ b))) W := by
  rw [binOp_string_leq, ByteArray.toList_eq, ByteArray.toList_eq]
  simp only [bytesLess_eq]
  have : (decide (a < b) || a == b) = decide (a ≤ b) := by
    rw [Bool.eq_iff_iff]
    simp only [Bool.or_eq_true, decide_eq_true_eq, beq_iff_eq]
    constructor
    · rintro (q | q)
      · exact List.le_of_lt q
      · rw [q]; exact List.le_refl b
    · intro q
      rcases nm_tri a b with r | r | r
      · exact Or.inl r
      · exact Or.inr r
      · exact (List.not_lt.2 q r).elim
  simp [this]

/-- A file that is handed in. -/
structure Fx where
  nm : Nm
  vb : Value
  bs : List UInt8
/-- A list of files, wherever it lies, below B. -/
structure Fs (B : Nat) (w : World) (a : Option Addr) (cap : Nat) (l : List Fx) : Prop where
  le : l.length ≤ cap
  cap : cap ≤ maxLen
  each : ∀ f ∈ l, f.nm.length ≤ maxLen ∧ Bs w f.vb f.bs ∧ (f.bs ≠ [] → ∀ g, f.vb.ownBlock = some g → g < B)
  cells : ∀ j f, l[j]? = some f → ∃ b off, a = some ⟨b, off, none⟩ ∧ b < B ∧ w.cell? ⟨b, off + j * 2, none⟩ = some (strV f.nm) ∧ w.cell? ⟨b, off + j * 2 + 1, none⟩ = some f.vb
theorem Fs.turn {B : Nat} {S : Nat → Prop} {w w' : World} {a : Option Addr} {cap : Nat} {l : List Fx} (h : Fs B w a cap l) (t : Turn S w w') (hS : ∀ k, S k → B ≤ k) : Fs B w' a cap l :=
  ⟨h.le, h.cap, fun f hf => ⟨(h.each f hf).1, (h.each f hf).2.1.late t (fun hne g hg q => by have := (h.each f hf).2.2 hne g hg; have := hS g q; omega), (h.each f hf).2.2⟩, fun j f hj => by
    obtain ⟨b, off, e, hb, c0, c1⟩ := h.cells j f hj
    exact ⟨b, off, e, hb, t.keep c0 (fun q => by have := hS _ q; simp at this; omega), t.keep c1 (fun q => by have := hS _ q; simp at this; omega)⟩⟩
theorem Fs.turn_no {B : Nat} {w w' : World} {a : Option Addr} {cap : Nat} {l : List Fx} (h : Fs B w a cap l) (t : Turn no w w') : Fs B w' a cap l := h.turn t (fun _ q => q.elim)

/-- Is the name at a place one, and above the one ahead of it? -/
def okAt (l : List Nm) (k : Nat) : Bool := isNm (l.getD k []) && (decide (k = 0) || !decide (l.getD k [] ≤ l.getD (k - 1) []))
def ordB (l : List Nm) : Bool := (List.range l.length).all (okAt l)

set_option maxRecDepth 100000 in
set_option maxHeartbeats 4000000 in
theorem inOrder48 (B : Nat) (w : World) (a : Option Addr) (cap : Nat) (l : List Fx) (h : Fs B w a cap l) : Calls Try.prog 68 #[.slice a l.length cap] w fun e w' => e = .returned (.bool (ordB (l.map Fx.nm))) ∧ Turn no w w' := by
  have hle : l.length ≤ 9223372036854775807 := by have := h.le; have := h.cap; simp only [maxLen] at this; omega
  go_enter Try.func68, Try.ntmps68
  go_wp2_with fail
  go_loopw [7] (fun x wr => ∃ k : Nat, k ≤ l.length ∧ x = .int .i64 k ∧ (∀ j, j < k → okAt (l.map Fx.nm) j = true) ∧ Turn no w wr) (fun x _ => l.length - (intOf x).toNat)
  case atStart => exact ⟨0, Nat.zero_le _, rfl, (fun j hj => by omega), Turn.refl _ _⟩
  case round =>
    obtain ⟨k, hk, rfl, hall, T⟩ := hrel
    by_cases hlt : k < l.length
    · have hlt' : (k : Int) < (l.length : Int) := by omega
      obtain ⟨f, hf⟩ : ∃ f, l[k]? = some f := ⟨l[k], List.getElem?_eq_getElem hlt⟩
      have hfm := List.mem_of_getElem? hf
      obtain ⟨b, off, rfl, hb, c0, c1⟩ := (h.turn_no T).cells k f hf
      obtain ⟨va, vn, vc, hvb⟩ : ∃ va vn vc, f.vb = .slice va vn vc := by
        obtain ⟨x, y, e⟩ := (h.each f hfm).2.1.slice
        exact ⟨_, _, _, e⟩
      rw [hvb] at c1
      have TA : Turn no wr (wr.alloc (.cells #[strV f.nm, .slice va vn vc] 66)) := (Turn.refl no wr).alloc _
      have BX : Row (wr.alloc (.cells #[strV f.nm, .slice va vn vc] 66)) wr.heap.size #[strV f.nm, .slice va vn vc] 66 := Row.new wr _ 66
      have hnm := (h.each f hfm).1
      have hgk : (l.map Fx.nm).getD k [] = f.nm := by simp [List.getD_eq_getElem?_getD, hf]
      have TW := T.then_no TA
      obtain ⟨g, hg⟩ : ∃ g, g = wr.heap.size := ⟨_, rfl⟩
      rw [← hg] at BX
      have HG := shut hg
      clear hg
      have hbx : ∀ W, Turn no (wr.alloc (.cells #[strV f.nm, .slice va vn vc] 66)) W → W.cell? ⟨g, 0, none⟩ = some (.string ⟨f.nm.toArray⟩) := fun W t => (BX.turn t (fun q => q)).cell 0 _ rfl
      have hin := fun W => isName50 W f.nm hnm
      have fsT := h.turn_no TW
      unfold strV at *
      cases hn : isNm f.nm with
      | false =>
        have hbad : okAt (l.map Fx.nm) k = false := by simp only [okAt, hgk, hn, Bool.false_and]
        have hord : Shut (ordB (l.map Fx.nm) = false) := by
          show ordB (l.map Fx.nm) = false
          rw [ordB, List.all_eq_false]
          exact ⟨k, by simpa using hlt, by rw [hbad]; simp⟩
        rw [hn] at hin
        clear hall hbad fsT
        go_wp2_with fail
        rw [← HG.out]
        generalize hwa : wr.alloc (.cells #[.string ⟨f.nm.toArray⟩, .slice va vn vc] 66) = wa at *
        refine wp_region_noPanic ?_
        refine wp_region_held_drew (S := fun W => Turn no wa W) (by kernel_rfl) (Turn.refl _ wa).drew (fun hHeld => ?_)
        refine' wpAnyH_take (i := 0) (v := .pointer (some ⟨g, 0, none⟩)) rfl (by kernel_rfl) (by kernel_rfl) (by kernel_rfl) (fun _ _ _ h => h) (Or.inl ⟨by kernel_rfl, fun W hW => ?y1⟩) hHeld ?r1
        · go_simp
        refine' wpAnyH_take (i := 1) (v := .string ⟨f.nm.toArray⟩) rfl (by kernel_rfl) (by kernel_rfl) (by kernel_rfl) (fun _ _ _ h => h) (Or.inl ⟨by kernel_rfl, fun W hW => ?y2⟩) hHeld ?r2
        · have c := hbx _ hW
          go_simp
        refine wpAnyH_ready (rs := [2]) (by kernel_rfl) (by simp) ?_
        refine AllReadyH.cons rfl (fun K hK => ?_) AllReadyH.nil
        go_simp
        refine (hin _).mono ?_
        rintro e w5 ⟨rfl, rfl⟩
        go_wp2_with fail
        refine hK.out _ _ hHeld (fun hHeld => ?_)
        clear hK
        refine' wpAnyH_take (i := 3) (v := .bool true) rfl (by kernel_rfl) (by kernel_rfl) (by kernel_rfl) (fun _ _ _ h => h) (Or.inl ⟨by kernel_rfl, fun W hW => ?y3⟩) hHeld ?r3
        · go_simp
        refine' wpAnyH_take (i := 4) (v := .bool true) rfl (by kernel_rfl) (by kernel_rfl) (by kernel_rfl) (fun _ _ _ h => h) (Or.inl ⟨by kernel_rfl, fun W hW => ?y4⟩) hHeld ?r4
        · go_simp
        refine' wpAnyH_take (i := 5) (v := undef) rfl (by kernel_rfl) (by kernel_rfl) (by kernel_rfl) (fun _ _ _ h => h) (Or.inr ⟨by kernel_rfl, rfl⟩) hHeld ?r5
        refine' wpAnyH_take (i := 6) (v := undef) rfl (by kernel_rfl) (by kernel_rfl) (by kernel_rfl) (fun _ _ _ h => h) (Or.inr ⟨by kernel_rfl, rfl⟩) hHeld ?r6
        refine' wpAnyH_take (i := 7) (v := undef) rfl (by kernel_rfl) (by kernel_rfl) (by kernel_rfl) (fun _ _ _ h => h) (Or.inr ⟨by kernel_rfl, rfl⟩) hHeld ?r7
        refine' wpAnyH_take (i := 8) (v := undef) rfl (by kernel_rfl) (by kernel_rfl) (by kernel_rfl) (fun _ _ _ h => h) (Or.inr ⟨by kernel_rfl, rfl⟩) hHeld ?r8
        refine' wpAnyH_take (i := 9) (v := undef) rfl (by kernel_rfl) (by kernel_rfl) (by kernel_rfl) (fun _ _ _ h => h) (Or.inr ⟨by kernel_rfl, rfl⟩) hHeld ?r9
        refine' wpAnyH_take (i := 10) (v := undef) rfl (by kernel_rfl) (by kernel_rfl) (by kernel_rfl) (fun _ _ _ h => h) (Or.inr ⟨by kernel_rfl, rfl⟩) hHeld ?r10
        refine' wpAnyH_take (i := 11) (v := undef) rfl (by kernel_rfl) (by kernel_rfl) (by kernel_rfl) (fun _ _ _ h => h) (Or.inr ⟨by kernel_rfl, rfl⟩) hHeld ?r11
        refine' wpAnyH_take (i := 12) (v := undef) rfl (by kernel_rfl) (by kernel_rfl) (by kernel_rfl) (fun _ _ _ h => h) (Or.inr ⟨by kernel_rfl, rfl⟩) hHeld ?r12
        refine' wpAnyH_take (i := 13) (v := undef) rfl (by kernel_rfl) (by kernel_rfl) (by kernel_rfl) (fun _ _ _ h => h) (Or.inr ⟨by kernel_rfl, rfl⟩) hHeld ?r13
        refine' wpAnyH_take (i := 14) (v := undef) rfl (by kernel_rfl) (by kernel_rfl) (by kernel_rfl) (fun _ _ _ h => h) (Or.inr ⟨by kernel_rfl, rfl⟩) hHeld ?r14
        refine' wpAnyH_take (i := 15) (v := undef) rfl (by kernel_rfl) (by kernel_rfl) (by kernel_rfl) (fun _ _ _ h => h) (Or.inr ⟨by kernel_rfl, rfl⟩) hHeld ?r15
        refine' wpAnyH_take (i := 16) (v := undef) rfl (by kernel_rfl) (by kernel_rfl) (by kernel_rfl) (fun _ _ _ h => h) (Or.inr ⟨by kernel_rfl, rfl⟩) hHeld ?r16
        refine' wpAnyH_take (i := 17) (v := undef) rfl (by kernel_rfl) (by kernel_rfl) (by kernel_rfl) (fun _ _ _ h => h) (Or.inr ⟨by kernel_rfl, rfl⟩) hHeld ?r17
        refine wpAnyH_ready (rs := [18]) (by kernel_rfl) (by simp) ?_
        refine AllReadyH.cons rfl (fun K hK => ?_) AllReadyH.nil
        go_simp
        refine hK.out _ _ hHeld (fun hHeld => ?_)
        clear hK
        refine wpAnyH_done (by kernel_rfl) ?_ _
        refine NoPanic.normal ?_
        have HT := shut (TW.then_no hHeld)
        clear hin hbx hwa BX TA h c0 c1 hnm T TW hfm hHeld
        go_wp2_with fail
        go_ret
        exact ⟨by rw [hord.out]; rfl, HT.out⟩
      | true =>
        rw [hn] at hin
        by_cases hk0 : k = 0
        · have hgood : okAt (l.map Fx.nm) k = true := by simp only [okAt, hgk, hn, Bool.true_and]; simp [hk0]
          have hall' : Shut (∀ j, j < k + 1 → okAt (l.map Fx.nm) j = true) := fun j hj => by
            rcases Nat.lt_or_ge j k with q | q
            · exact hall j q
            · have : j = k := by omega
              rw [this]; exact hgood
          clear hall hgood fsT
          have hk0' : decide ((0 : Int) < (k : Int)) = false := by simp; omega
          have hkz : k ≤ 0 := by omega
          have HK0 := shut hk0
          clear hk0
          go_wp2_with fail
          rw [← HG.out]
          generalize hwa : wr.alloc (.cells #[.string ⟨f.nm.toArray⟩, .slice va vn vc] 66) = wa at *
          refine wp_region_noPanic ?_
          refine wp_region_held_drew (S := fun W => Turn no wa W) (by kernel_rfl) (Turn.refl _ wa).drew (fun hHeld => ?_)
          refine' wpAnyH_take (i := 0) (v := .pointer (some ⟨g, 0, none⟩)) rfl (by kernel_rfl) (by kernel_rfl) (by kernel_rfl) (fun _ _ _ h => h) (Or.inl ⟨by kernel_rfl, fun W hW => ?y18⟩) hHeld ?r18
          · go_simp
          refine' wpAnyH_take (i := 1) (v := .string ⟨f.nm.toArray⟩) rfl (by kernel_rfl) (by kernel_rfl) (by kernel_rfl) (fun _ _ _ h => h) (Or.inl ⟨by kernel_rfl, fun W hW => ?y19⟩) hHeld ?r19
          · have c := hbx _ hW
            go_simp
          refine wpAnyH_ready (rs := [2]) (by kernel_rfl) (by simp) ?_
          refine AllReadyH.cons rfl (fun K hK => ?_) AllReadyH.nil
          go_simp
          refine (hin _).mono ?_
          rintro e w5 ⟨rfl, rfl⟩
          go_wp2_with fail
          refine hK.out _ _ hHeld (fun hHeld => ?_)
          clear hK
          refine' wpAnyH_take (i := 3) (v := .bool false) rfl (by kernel_rfl) (by kernel_rfl) (by kernel_rfl) (fun _ _ _ h => h) (Or.inl ⟨by kernel_rfl, fun W hW => ?y20⟩) hHeld ?r20
          · go_simp
          refine' wpAnyH_take (i := 4) (v := .bool false) rfl (by kernel_rfl) (by kernel_rfl) (by kernel_rfl) (fun _ _ _ h => h) (Or.inl ⟨by kernel_rfl, fun W hW => ?y21⟩) hHeld ?r21
          · go_simp
          refine' wpAnyH_take (i := 5) (v := .int .i64 k) rfl (by kernel_rfl) (by kernel_rfl) (by kernel_rfl) (fun _ _ _ h => h) (Or.inl ⟨by kernel_rfl, fun W hW => ?y22⟩) hHeld ?r22
          · go_simp
          refine' wpAnyH_take (i := 6) (v := .bool false) rfl (by kernel_rfl) (by kernel_rfl) (by kernel_rfl) (fun _ _ _ h => h) (Or.inl ⟨by kernel_rfl, fun W hW => ?y23⟩) hHeld ?r23
          · go_simp
            all_goals omega
          refine' wpAnyH_take (i := 7) (v := .bool false) rfl (by kernel_rfl) (by kernel_rfl) (by kernel_rfl) (fun _ _ _ h => h) (Or.inl ⟨by kernel_rfl, fun W hW => ?y24⟩) hHeld ?r24
          · go_simp
          refine' wpAnyH_take (i := 8) (v := undef) rfl (by kernel_rfl) (by kernel_rfl) (by kernel_rfl) (fun _ _ _ h => h) (Or.inr ⟨by kernel_rfl, rfl⟩) hHeld ?r25
          refine' wpAnyH_take (i := 9) (v := undef) rfl (by kernel_rfl) (by kernel_rfl) (by kernel_rfl) (fun _ _ _ h => h) (Or.inr ⟨by kernel_rfl, rfl⟩) hHeld ?r26
          refine' wpAnyH_take (i := 10) (v := undef) rfl (by kernel_rfl) (by kernel_rfl) (by kernel_rfl) (fun _ _ _ h => h) (Or.inr ⟨by kernel_rfl, rfl⟩) hHeld ?r27
          refine' wpAnyH_take (i := 11) (v := undef) rfl (by kernel_rfl) (by kernel_rfl) (by kernel_rfl) (fun _ _ _ h => h) (Or.inr ⟨by kernel_rfl, rfl⟩) hHeld ?r28
          refine' wpAnyH_take (i := 12) (v := undef) rfl (by kernel_rfl) (by kernel_rfl) (by kernel_rfl) (fun _ _ _ h => h) (Or.inr ⟨by kernel_rfl, rfl⟩) hHeld ?r29
          refine' wpAnyH_take (i := 13) (v := undef) rfl (by kernel_rfl) (by kernel_rfl) (by kernel_rfl) (fun _ _ _ h => h) (Or.inr ⟨by kernel_rfl, rfl⟩) hHeld ?r30
          refine' wpAnyH_take (i := 14) (v := undef) rfl (by kernel_rfl) (by kernel_rfl) (by kernel_rfl) (fun _ _ _ h => h) (Or.inr ⟨by kernel_rfl, rfl⟩) hHeld ?r31
          refine' wpAnyH_take (i := 15) (v := undef) rfl (by kernel_rfl) (by kernel_rfl) (by kernel_rfl) (fun _ _ _ h => h) (Or.inr ⟨by kernel_rfl, rfl⟩) hHeld ?r32
          refine' wpAnyH_take (i := 16) (v := undef) rfl (by kernel_rfl) (by kernel_rfl) (by kernel_rfl) (fun _ _ _ h => h) (Or.inr ⟨by kernel_rfl, rfl⟩) hHeld ?r33
          refine' wpAnyH_take (i := 17) (v := .bool false) rfl (by kernel_rfl) (by kernel_rfl) (by kernel_rfl) (fun _ _ _ h => h) (Or.inl ⟨by kernel_rfl, fun W hW => ?y34⟩) hHeld ?r34
          · go_simp
          refine wpAnyH_ready (rs := [18]) (by kernel_rfl) (by simp) ?_
          refine AllReadyH.cons rfl (fun K hK => ?_) AllReadyH.nil
          go_simp
          refine hK.out _ _ hHeld (fun hHeld => ?_)
          clear hK
          refine wpAnyH_done (by kernel_rfl) ?_ _
          refine NoPanic.normal ?_
          have HT := shut (TW.then_no hHeld)
          clear hin hbx hwa BX TA h c0 c1 hnm T TW hfm hHeld
          go_wp2_with fail
          go_roundw
          case rel => exact ⟨k + 1, by omega, by go_num, hall'.out, HT.out⟩
          case measure => simp [intOf]; omega
        · obtain ⟨k1, hk1⟩ : ∃ k1, k = k1 + 1 := ⟨k - 1, by omega⟩
          obtain ⟨f1, hf1⟩ : ∃ f1, l[k1]? = some f1 := ⟨l[k1], List.getElem?_eq_getElem (by omega)⟩
          obtain ⟨b', off', e', hb', c0', _⟩ := fsT.cells k1 f1 hf1
          simp at e'
          obtain ⟨rfl, rfl⟩ := e'
          have hgk1 : (l.map Fx.nm).getD (k - 1) [] = f1.nm := by rw [hk1]; simp [List.getD_eq_getElem?_getD, hf1]
          have hk0' : decide ((0 : Int) < (k : Int)) = true := by simp; omega
          have hkw : IntKind.i64.wrap ((k : Int) - 1) = (k1 : Int) := by rw [wrap_i64 (by omega) (by omega)]; omega
          have hkw2 : (k : Int) - 1 = (k1 : Int) := by omega
          have hk1l : (k1 : Int) < (l.length : Int) := by omega
          have hkp : 0 < k := by omega
          have hkw3 : IntKind.i64.wrap (k1 : Int) = (k1 : Int) := wrap_i64 (by omega) (by omega)
          have hk1l' : k1 < l.length := by omega
          have hlq := fun W => leq9 f.nm f1.nm W
          have hpv : ∀ W, Turn no (wr.alloc (.cells #[.string ⟨f.nm.toArray⟩, .slice va vn vc] 66)) W → W.cell? ⟨b, off + k1 * 2, none⟩ = some (.string ⟨f1.nm.toArray⟩) := fun W t => t.keep c0' (fun q => q)
          cases hle2 : decide (f.nm ≤ f1.nm) with
          | true =>
            have hbad : okAt (l.map Fx.nm) k = false := by simp only [okAt, hgk, hgk1, hle2]; simp [hk0]
            have hord : Shut (ordB (l.map Fx.nm) = false) := by
              show ordB (l.map Fx.nm) = false
              rw [ordB, List.all_eq_false]
              exact ⟨k, by simpa using hlt, by rw [hbad]; simp⟩
            have hle3 : f.nm ≤ f1.nm := by simpa using hle2
            have hlx : Op.bytesLess f.nm f1.nm = true ∨ f.nm = f1.nm := by
              rw [bytesLess_eq]
              rcases nm_tri f.nm f1.nm with r | r | r
              · exact Or.inl (by simpa using r)
              · exact Or.inr r
              · exact (List.not_lt.2 hle3 r).elim
            clear hlq
            have HK := shut hk1
            clear hle3 hle2
            clear hall hbad fsT hgk hgk1 hk1 hf1 hf
            go_wp2_with fail
            rw [← HG.out]
            generalize hwa : wr.alloc (.cells #[.string ⟨f.nm.toArray⟩, .slice va vn vc] 66) = wa at *
            refine wp_region_noPanic ?_
            refine wp_region_held_drew (S := fun W => Turn no wa W) (by kernel_rfl) (Turn.refl _ wa).drew (fun hHeld => ?_)
            refine' wpAnyH_take (i := 0) (v := .pointer (some ⟨g, 0, none⟩)) rfl (by kernel_rfl) (by kernel_rfl) (by kernel_rfl) (fun _ _ _ h => h) (Or.inl ⟨by kernel_rfl, fun W hW => ?y35⟩) hHeld ?r35
            · go_simp
            refine' wpAnyH_take (i := 1) (v := .string ⟨f.nm.toArray⟩) rfl (by kernel_rfl) (by kernel_rfl) (by kernel_rfl) (fun _ _ _ h => h) (Or.inl ⟨by kernel_rfl, fun W hW => ?y36⟩) hHeld ?r36
            · have c := hbx _ hW
              go_simp
            refine wpAnyH_ready (rs := [2]) (by kernel_rfl) (by simp) ?_
            refine AllReadyH.cons rfl (fun K hK => ?_) AllReadyH.nil
            go_simp
            refine (hin _).mono ?_
            rintro e w5 ⟨rfl, rfl⟩
            go_wp2_with fail
            refine hK.out _ _ hHeld (fun hHeld => ?_)
            clear hK
            refine' wpAnyH_take (i := 3) (v := .bool false) rfl (by kernel_rfl) (by kernel_rfl) (by kernel_rfl) (fun _ _ _ h => h) (Or.inl ⟨by kernel_rfl, fun W hW => ?y37⟩) hHeld ?r37
            · go_simp
            refine' wpAnyH_take (i := 4) (v := .bool false) rfl (by kernel_rfl) (by kernel_rfl) (by kernel_rfl) (fun _ _ _ h => h) (Or.inl ⟨by kernel_rfl, fun W hW => ?y38⟩) hHeld ?r38
            · go_simp
            refine' wpAnyH_take (i := 5) (v := .int .i64 k) rfl (by kernel_rfl) (by kernel_rfl) (by kernel_rfl) (fun _ _ _ h => h) (Or.inl ⟨by kernel_rfl, fun W hW => ?y39⟩) hHeld ?r39
            · go_simp
            refine' wpAnyH_take (i := 6) (v := .bool true) rfl (by kernel_rfl) (by kernel_rfl) (by kernel_rfl) (fun _ _ _ h => h) (Or.inl ⟨by kernel_rfl, fun W hW => ?y40⟩) hHeld ?r40
            · go_simp
              all_goals omega
            refine' wpAnyH_take (i := 7) (v := .bool true) rfl (by kernel_rfl) (by kernel_rfl) (by kernel_rfl) (fun _ _ _ h => h) (Or.inl ⟨by kernel_rfl, fun W hW => ?y41⟩) hHeld ?r41
            · go_simp
            refine' wpAnyH_take (i := 8) (v := .pointer (some ⟨g, 0, none⟩)) rfl (by kernel_rfl) (by kernel_rfl) (by kernel_rfl) (fun _ _ _ h => h) (Or.inl ⟨by kernel_rfl, fun W hW => ?y42⟩) hHeld ?r42
            · go_simp
            refine' wpAnyH_take (i := 9) (v := .string ⟨f.nm.toArray⟩) rfl (by kernel_rfl) (by kernel_rfl) (by kernel_rfl) (fun _ _ _ h => h) (Or.inl ⟨by kernel_rfl, fun W hW => ?y43⟩) hHeld ?r43
            · have c := hbx _ hW
              go_simp
            refine' wpAnyH_take (i := 10) (v := .slice (some ⟨b, off, none⟩) l.length cap) rfl (by kernel_rfl) (by kernel_rfl) (by kernel_rfl) (fun _ _ _ h => h) (Or.inl ⟨by kernel_rfl, fun W hW => ?y44⟩) hHeld ?r44
            · go_simp
            refine' wpAnyH_take (i := 11) (v := .int .i64 k) rfl (by kernel_rfl) (by kernel_rfl) (by kernel_rfl) (fun _ _ _ h => h) (Or.inl ⟨by kernel_rfl, fun W hW => ?y45⟩) hHeld ?r45
            · go_simp
            refine' wpAnyH_take (i := 12) (v := .int .i64 k1) rfl (by kernel_rfl) (by kernel_rfl) (by kernel_rfl) (fun _ _ _ h => h) (Or.inl ⟨by kernel_rfl, fun W hW => ?y46⟩) hHeld ?r46
            · go_simp
            refine' wpAnyH_take (i := 13) (v := .pointer (some ⟨b, off + k1 * 2, none⟩)) rfl (by kernel_rfl) (by kernel_rfl) (by kernel_rfl) (fun _ _ _ h => h) (Or.inl ⟨by kernel_rfl, fun W hW => ?y47⟩) hHeld ?r47
            · go_simp
            refine' wpAnyH_take (i := 14) (v := .pointer (some ⟨b, off + k1 * 2, none⟩)) rfl (by kernel_rfl) (by kernel_rfl) (by kernel_rfl) (fun _ _ _ h => h) (Or.inl ⟨by kernel_rfl, fun W hW => ?y48⟩) hHeld ?r48
            · go_simp
            refine' wpAnyH_take (i := 15) (v := .string ⟨f1.nm.toArray⟩) rfl (by kernel_rfl) (by kernel_rfl) (by kernel_rfl) (fun _ _ _ h => h) (Or.inl ⟨by kernel_rfl, fun W hW => ?y49⟩) hHeld ?r49
            · have c := hpv _ hW
              go_simp
            refine' wpAnyH_take (i := 16) (v := .bool true) rfl (by kernel_rfl) (by kernel_rfl) (by kernel_rfl) (fun _ _ _ h => h) (Or.inl ⟨by kernel_rfl, fun W hW => ?y50⟩) hHeld ?r50
            · go_simp
              all_goals exact hlx
            refine' wpAnyH_take (i := 17) (v := .bool true) rfl (by kernel_rfl) (by kernel_rfl) (by kernel_rfl) (fun _ _ _ h => h) (Or.inl ⟨by kernel_rfl, fun W hW => ?y51⟩) hHeld ?r51
            · go_simp
            refine wpAnyH_ready (rs := [18]) (by kernel_rfl) (by simp) ?_
            refine AllReadyH.cons rfl (fun K hK => ?_) AllReadyH.nil
            go_simp
            refine hK.out _ _ hHeld (fun hHeld => ?_)
            clear hK
            refine wpAnyH_done (by kernel_rfl) ?_ _
            refine NoPanic.normal ?_
            have HT := shut (TW.then_no hHeld)
            clear hin hbx hwa BX TA h c0 c1 hnm T TW hfm hHeld
            go_wp2_with fail
            go_ret
            exact ⟨by rw [hord.out]; rfl, HT.out⟩
          | false =>
            have hgood : okAt (l.map Fx.nm) k = true := by simp only [okAt, hgk, hgk1, hle2, hn]; simp
            have hall' : Shut (∀ j, j < k + 1 → okAt (l.map Fx.nm) j = true) := fun j hj => by
              rcases Nat.lt_or_ge j k with q | q
              · exact hall j q
              · have : j = k := by omega
                rw [this]; exact hgood
            have hle3 : ¬ f.nm ≤ f1.nm := by simpa using hle2
            have hlx : Op.bytesLess f.nm f1.nm = false ∧ ¬ f.nm = f1.nm := by
              rw [bytesLess_eq]
              refine ⟨?_, fun e => hle3 (by rw [e]; exact List.le_refl _)⟩
              simp only [decide_eq_false_iff_not]
              exact fun q => hle3 (List.le_of_lt q)
            clear hlq
            have HK := shut hk1
            clear hle3 hle2
            clear hall hgood fsT hgk hgk1 hk1 hf1 hf
            go_wp2_with fail
            rw [← HG.out]
            generalize hwa : wr.alloc (.cells #[.string ⟨f.nm.toArray⟩, .slice va vn vc] 66) = wa at *
            refine wp_region_noPanic ?_
            refine wp_region_held_drew (S := fun W => Turn no wa W) (by kernel_rfl) (Turn.refl _ wa).drew (fun hHeld => ?_)
            refine' wpAnyH_take (i := 0) (v := .pointer (some ⟨g, 0, none⟩)) rfl (by kernel_rfl) (by kernel_rfl) (by kernel_rfl) (fun _ _ _ h => h) (Or.inl ⟨by kernel_rfl, fun W hW => ?y52⟩) hHeld ?r52
            · go_simp
            refine' wpAnyH_take (i := 1) (v := .string ⟨f.nm.toArray⟩) rfl (by kernel_rfl) (by kernel_rfl) (by kernel_rfl) (fun _ _ _ h => h) (Or.inl ⟨by kernel_rfl, fun W hW => ?y53⟩) hHeld ?r53
            · have c := hbx _ hW
              go_simp
            refine wpAnyH_ready (rs := [2]) (by kernel_rfl) (by simp) ?_
            refine AllReadyH.cons rfl (fun K hK => ?_) AllReadyH.nil
            go_simp
            refine (hin _).mono ?_
            rintro e w5 ⟨rfl, rfl⟩
            go_wp2_with fail
            refine hK.out _ _ hHeld (fun hHeld => ?_)
            clear hK
            refine' wpAnyH_take (i := 3) (v := .bool false) rfl (by kernel_rfl) (by kernel_rfl) (by kernel_rfl) (fun _ _ _ h => h) (Or.inl ⟨by kernel_rfl, fun W hW => ?y54⟩) hHeld ?r54
            · go_simp
            refine' wpAnyH_take (i := 4) (v := .bool false) rfl (by kernel_rfl) (by kernel_rfl) (by kernel_rfl) (fun _ _ _ h => h) (Or.inl ⟨by kernel_rfl, fun W hW => ?y55⟩) hHeld ?r55
            · go_simp
            refine' wpAnyH_take (i := 5) (v := .int .i64 k) rfl (by kernel_rfl) (by kernel_rfl) (by kernel_rfl) (fun _ _ _ h => h) (Or.inl ⟨by kernel_rfl, fun W hW => ?y56⟩) hHeld ?r56
            · go_simp
            refine' wpAnyH_take (i := 6) (v := .bool true) rfl (by kernel_rfl) (by kernel_rfl) (by kernel_rfl) (fun _ _ _ h => h) (Or.inl ⟨by kernel_rfl, fun W hW => ?y57⟩) hHeld ?r57
            · go_simp
              all_goals omega
            refine' wpAnyH_take (i := 7) (v := .bool true) rfl (by kernel_rfl) (by kernel_rfl) (by kernel_rfl) (fun _ _ _ h => h) (Or.inl ⟨by kernel_rfl, fun W hW => ?y58⟩) hHeld ?r58
            · go_simp
            refine' wpAnyH_take (i := 8) (v := .pointer (some ⟨g, 0, none⟩)) rfl (by kernel_rfl) (by kernel_rfl) (by kernel_rfl) (fun _ _ _ h => h) (Or.inl ⟨by kernel_rfl, fun W hW => ?y59⟩) hHeld ?r59
            · go_simp
            refine' wpAnyH_take (i := 9) (v := .string ⟨f.nm.toArray⟩) rfl (by kernel_rfl) (by kernel_rfl) (by kernel_rfl) (fun _ _ _ h => h) (Or.inl ⟨by kernel_rfl, fun W hW => ?y60⟩) hHeld ?r60
            · have c := hbx _ hW
              go_simp
            refine' wpAnyH_take (i := 10) (v := .slice (some ⟨b, off, none⟩) l.length cap) rfl (by kernel_rfl) (by kernel_rfl) (by kernel_rfl) (fun _ _ _ h => h) (Or.inl ⟨by kernel_rfl, fun W hW => ?y61⟩) hHeld ?r61
            · go_simp
            refine' wpAnyH_take (i := 11) (v := .int .i64 k) rfl (by kernel_rfl) (by kernel_rfl) (by kernel_rfl) (fun _ _ _ h => h) (Or.inl ⟨by kernel_rfl, fun W hW => ?y62⟩) hHeld ?r62
            · go_simp
            refine' wpAnyH_take (i := 12) (v := .int .i64 k1) rfl (by kernel_rfl) (by kernel_rfl) (by kernel_rfl) (fun _ _ _ h => h) (Or.inl ⟨by kernel_rfl, fun W hW => ?y63⟩) hHeld ?r63
            · go_simp
            refine' wpAnyH_take (i := 13) (v := .pointer (some ⟨b, off + k1 * 2, none⟩)) rfl (by kernel_rfl) (by kernel_rfl) (by kernel_rfl) (fun _ _ _ h => h) (Or.inl ⟨by kernel_rfl, fun W hW => ?y64⟩) hHeld ?r64
            · go_simp
            refine' wpAnyH_take (i := 14) (v := .pointer (some ⟨b, off + k1 * 2, none⟩)) rfl (by kernel_rfl) (by kernel_rfl) (by kernel_rfl) (fun _ _ _ h => h) (Or.inl ⟨by kernel_rfl, fun W hW => ?y65⟩) hHeld ?r65
            · go_simp
            refine' wpAnyH_take (i := 15) (v := .string ⟨f1.nm.toArray⟩) rfl (by kernel_rfl) (by kernel_rfl) (by kernel_rfl) (fun _ _ _ h => h) (Or.inl ⟨by kernel_rfl, fun W hW => ?y66⟩) hHeld ?r66
            · have c := hpv _ hW
              go_simp
            refine' wpAnyH_take (i := 16) (v := .bool false) rfl (by kernel_rfl) (by kernel_rfl) (by kernel_rfl) (fun _ _ _ h => h) (Or.inl ⟨by kernel_rfl, fun W hW => ?y67⟩) hHeld ?r67
            · go_simp
              all_goals exact hlx
            refine' wpAnyH_take (i := 17) (v := .bool false) rfl (by kernel_rfl) (by kernel_rfl) (by kernel_rfl) (fun _ _ _ h => h) (Or.inl ⟨by kernel_rfl, fun W hW => ?y68⟩) hHeld ?r68
            · go_simp
            refine wpAnyH_ready (rs := [18]) (by kernel_rfl) (by simp) ?_
            refine AllReadyH.cons rfl (fun K hK => ?_) AllReadyH.nil
            go_simp
            refine hK.out _ _ hHeld (fun hHeld => ?_)
            clear hK
            refine wpAnyH_done (by kernel_rfl) ?_ _
            refine NoPanic.normal ?_
            have HT := shut (TW.then_no hHeld)
            clear hin hbx hwa BX TA h c0 c1 hnm T TW hfm hHeld
            go_wp2_with fail
            go_roundw
            case rel => exact ⟨k + 1, by omega, by go_num, hall'.out, HT.out⟩
            case measure => simp [intOf]; omega
    · have hkl : k = l.length := by omega
      have hlt' : ¬ (k : Int) < (l.length : Int) := by omega
      have hord : Shut (ordB (l.map Fx.nm) = true) := by
        show ordB (l.map Fx.nm) = true
        rw [ordB, List.all_eq_true]
        intro j hj
        exact hall j (by simp at hj; omega)
      clear hall
      go_wp2_with fail
      go_ret
      exact ⟨by rw [hord.out]; rfl, T⟩
end Go.Proofs.Ytcdogciacchigab
