/- Median of the document. -/
import Derived.Test.YtbhimedajfkioaaO1
import Derived.Test.YtbhimedajfkioaaN3
namespace Go.Proofs.Ytbhimedajfkioaa
open Go.RowKit
set_option linter.unusedVariables false

theorem plain_scan {h : Nat} {r : Int} {id : List UInt8} {l : List Mk} (hp : plainE h r id l = 0) (hn : l.length ≠ 0) : scanM (-1) l = 0 := by
  unfold plainE at hp
  have hz : zeroB h r id l.length = false := by simp [zeroB, hn]
  rw [hz, if_neg (by simp)] at hp
  split at hp
  · cases hp
  · split at hp
    · cases hp
    · exact hp
theorem scanM_take : ∀ (l : List Mk) (p : Int) (k : Nat), scanM p l = 0 → scanM p (l.take k) = 0
  | [], _, _, _ => by simp [scanM]
  | m :: r, p, 0, _ => by simp [scanM]
  | m :: r, p, k + 1, h => by
    unfold scanM at h
    rw [List.take_succ_cons]
    unfold scanM
    split at h
    · cases h
    · rename_i hq
      split at h
      · cases h
      · rename_i hle
        rw [if_neg hq, if_neg hle]
        exact scanM_take r _ k h
theorem scanM_pos : ∀ (l : List Mk) (p : Int), scanM p l = 0 → ∀ m ∈ l, 0 ≤ m.ix
  | [], _, _, m, hm => by cases hm
  | x :: r, p, h, m, hm => by
    unfold scanM at h
    split at h
    · cases h
    · rename_i hq
      split at h
      · cases h
      · rcases List.mem_cons.1 hm with rfl | hm
        · rcases Int.lt_or_le m.ix 0 with z | z
          · exact absurd (Or.inl z) hq
          · exact z
        · exact scanM_pos r _ h m hm
theorem max_tm : ∀ l : List Mk, l ≠ [] → ∃ m ∈ l, ∀ x ∈ l, x.tm ≤ m.tm
  | [], h => absurd rfl h
  | [m], _ => ⟨m, by simp, fun x hx => by simp at hx; subst hx; exact Nat.le_refl _⟩
  | m :: y :: r, _ => by
    obtain ⟨z, hz, hm⟩ := max_tm (y :: r) (by simp)
    rcases Nat.le_total z.tm m.tm with q | q
    · exact ⟨m, by simp, fun x hx => by
        rcases List.mem_cons.1 hx with rfl | hx
        · exact Nat.le_refl _
        · exact Nat.le_trans (hm x hx) q⟩
    · exact ⟨z, List.mem_cons_of_mem _ hz, fun x hx => by
        rcases List.mem_cons.1 hx with rfl | hx
        · exact q
        · exact hm x hx⟩
/-- The best as far as it was looked for. -/
def BestAt (M : List Mb) (l : List Mk) (A k : Nat) (fd : Bool) (b : Nat) : Prop :=
  (fd = false ∧ b = 0 ∧ ∀ m ∈ l.take k, 2 * below M l m.tm ≤ A) ∨ (fd = true ∧ (∃ m ∈ l.take k, m.tm = b) ∧ A < 2 * below M l b ∧ ∀ m ∈ l.take k, m.tm < b → 2 * below M l m.tm ≤ A)
theorem mem_take_succ {l : List Mk} {k : Nat} {m x : Mk} (hm : l[k]? = some m) (hx : x ∈ l.take (k + 1)) : x ∈ l.take k ∨ x = m := by
  rw [List.take_add_one, hm] at hx
  rcases List.mem_append.1 hx with hx | hx
  · exact Or.inl hx
  · simp at hx; exact Or.inr hx
theorem take_sub {l : List Mk} {k : Nat} {x : Mk} (hx : x ∈ l.take k) : x ∈ l.take (k + 1) := by
  rw [List.take_add_one]
  exact List.mem_append_left _ hx
theorem take_new {l : List Mk} {k : Nat} {m : Mk} (hm : l[k]? = some m) : m ∈ l.take (k + 1) := by
  rw [List.take_add_one, hm]
  simp
theorem BestAt.skip {M : List Mb} {l : List Mk} {A k : Nat} {fd : Bool} {b : Nat} (h : BestAt M l A k fd b) {m : Mk} (hm : l[k]? = some m) (hq : 2 * below M l m.tm ≤ A ∨ (fd = true ∧ b ≤ m.tm)) : BestAt M l A (k + 1) fd b := by
  rcases h with ⟨h1, h2, h3⟩ | ⟨h1, ⟨x, hx, hxb⟩, h3, h4⟩
  · refine Or.inl ⟨h1, h2, fun z hz => ?_⟩
    rcases mem_take_succ hm hz with q | rfl
    · exact h3 z q
    · rcases hq with q | ⟨q, _⟩
      · exact q
      · rw [h1] at q; cases q
  · refine Or.inr ⟨h1, ⟨x, take_sub hx, hxb⟩, h3, fun z hz hlt => ?_⟩
    rcases mem_take_succ hm hz with q | rfl
    · exact h4 z q hlt
    · rcases hq with q | ⟨_, q⟩
      · exact q
      · omega
theorem BestAt.take {M : List Mb} {l : List Mk} {A k : Nat} {fd : Bool} {b : Nat} (h : BestAt M l A k fd b) {m : Mk} (hm : l[k]? = some m) (hq : A < 2 * below M l m.tm) (hb : fd = false ∨ m.tm < b) : BestAt M l A (k + 1) true m.tm := by
  refine Or.inr ⟨rfl, ⟨m, take_new hm, rfl⟩, hq, fun z hz hlt => ?_⟩
  rcases mem_take_succ hm hz with q | rfl
  · rcases h with ⟨h1, h2, h3⟩ | ⟨h1, _, h3, h4⟩
    · exact h3 z q
    · rcases hb with e | e
      · rw [h1] at e; cases e
      · exact h4 z q (by omega)
  · omega
theorem BestAt.done {M : List Mb} {l : List Mk} {A n : Nat} {fd : Bool} {b : Nat} (h : BestAt M l A n fd b) (hn : l.length = n) (hA : psum M l = A) (hp : 0 < A) (h0 : n ≠ 0) : IsMed M l b := by
  unfold BestAt at h
  rw [List.take_of_length_le (by omega)] at h
  rcases h with ⟨h1, h2, h3⟩ | ⟨h1, h2, h3, h4⟩
  · obtain ⟨m, hm, hmx⟩ := max_tm l (fun q => by rw [q] at hn; exact h0 hn.symm)
    have e : below M l m.tm = psum M l := by
      unfold below
      rw [filter_mem_all _ l (fun x hx => by simpa using hmx x hx)]
    have := h3 m hm
    omega
  · exact ⟨h2, by rw [hA]; exact h3, by rw [hA]; exact h4⟩
theorem below_take_succ (M : List Mb) (l : List Mk) (t k : Nat) (m : Mk) (h : l[k]? = some m) : below M (l.take (k + 1)) t = below M (l.take k) t + (if m.tm ≤ t then pwOf M m else 0) := by
  unfold below
  rw [List.take_add_one, h, List.filter_append, psum_append]
  by_cases q : m.tm ≤ t
  · simp [q, psum]
  · simp [q, psum]
theorem below_take_le (M : List Mb) (l : List Mk) (t k : Nat) : below M (l.take k) t ≤ psum M l := Nat.le_trans (below_le M _ t) (psum_take_le M l k)
set_option maxRecDepth 100000 in
set_option maxHeartbeats 40000000 in
theorem rmedian8 (w : World) (vc : Value) (M : List Mb) (hc : Ms w vc M) (h : Nat) (r : Int) (id : List UInt8) (hid : id.length = 32) (v : Value) (l : List Mk) (hv : Ks w v l) :
    Calls Try.prog 8 #[.agg #[vc], .agg (ctL h r id v).toArray] w fun e w' => ∃ t : Nat, e = .returned (.tuple #[.int .u64 t, .int .i64 (medE M h r id l)]) ∧ (medE M h r id l = 0 → IsMed M l t) ∧ (medE M h r id l ≠ 0 → t = 0) ∧ Turn no w w' := by
  have HOK := shut hv.oks
  obtain ⟨ca, cc, rfl, hM⟩ := hc
  obtain ⟨a, cap, rfl, hk0⟩ := hv
  obtain ⟨w1, hw1⟩ : ∃ w1, w.alloc (.cells #[.slice ca M.length cc] 24) = w1 := ⟨_, rfl⟩
  have s1 : w1.heap.size = w.heap.size + 1 := by rw [← hw1]; simp
  have T1 : Turn no w w1 := by rw [← hw1]; exact (Turn.refl no w).alloc _
  have cb : w1.cell? ⟨w.heap.size, 0, none⟩ = some (.slice ca M.length cc) := by rw [← hw1]; exact cell_new1 w _ 24
  obtain ⟨w2, hw2⟩ : ∃ w2, w1.alloc (.cells (ctL h r id (.slice a l.length cap)).toArray 30) = w2 := ⟨_, rfl⟩
  have T2 : Turn no w1 w2 := by rw [← hw2]; exact (Turn.refl no w1).alloc _
  have hR : Row w2 (w.heap.size + 1) (ctL h r id (.slice a l.length cap)).toArray 30 := by rw [← s1, ← hw2]; exact Row.new w1 _ 30
  have HK : Shut (∀ W, Turn no w2 W → W.cell? ⟨w.heap.size, 0, none⟩ = some (.slice ca M.length cc) ∧ Row W (w.heap.size + 1) (ctL h r id (.slice a l.length cap)).toArray 30 ∧ W.cell? ⟨w.heap.size + 1, 34, none⟩ = some (.slice a l.length cap) ∧ Turn no w W ∧ KsAt W a cap l ∧ Ms W (.slice ca M.length cc) M) := fun W t =>
    ⟨(T2.then_no t).keep cb (fun q => q), hR.turn t (fun q => q), t.keep (hR.cell 34 _ (ctL_34 h r id hid _)) (fun q => q), (T1.then_no T2).then_no t, hk0.turn_no ((T1.then_no T2).then_no t), ⟨_, _, rfl, hM.turn_no ((T1.then_no T2).then_no t)⟩⟩
  have hi30 := size30 h r id hid (.slice a l.length cap)
  have HS : Shut (w.heap.size + 2 ≤ w2.heap.size) := by show _ ≤ _; rw [← hw2]; simp; omega
  have HSND : Shut (∀ W, Turn no w2 W → Calls Try.prog 24 #[.agg #[.slice ca M.length cc]] W fun e w' => e = .returned (.int .i64 (soundE M)) ∧ Turn no W w') := fun W t => rsound24 W _ M (HK.out W t).2.2.2.2.2
  have HPLN : Shut (∀ W, Turn no w2 W → Calls Try.prog 25 #[.agg (ctL h r id (.slice a l.length cap)).toArray] W fun e w' => e = .returned (.int .i64 (plainE h r id l)) ∧ Turn no W w') := fun W t => rplain25 W h r id hid _ l ⟨_, _, rfl, (HK.out W t).2.2.2.2.1⟩
  have hle : l.length ≤ 9223372036854775807 := by have := hk0.le; have := hk0.cap; simp only [maxLen] at this; omega
  have HE : Shut (medE M h r id l = if soundE M ≠ 0 then soundE M else if plainE h r id l ≠ 0 then plainE h r id l else if l.length = 0 then 127 else if seatedB M.length l = false then 101 else 0) := rfl
  have HMS : Shut (plainE h r id l = 0 → l.length ≠ 0 → seatedB M.length l = true → Sits M l ∧ psum M l ≤ tot M ∧ l.length ≤ 64) := fun x y z => med_sits x y z
  have HPP : Shut (soundE M = 0 → Sits M l → l.length ≠ 0 → 0 < psum M l) := fun x y z => pw_pos x y z
  have HTT : Shut (soundE M = 0 → (tot M : Int) ≤ 1152921504606846975) := fun x => tot_lt M x
  have HREF := Turn.refl no w2
  clear T1 T2 cb hk0 hM hid
  generalize medE M h r id l = E at *
  generalize (ctL h r id (.slice a l.length cap)).toArray = CT at *
  have HSC : Shut (plainE h r id l = 0 → l.length ≠ 0 → scanM (-1) l = 0) := fun x y => plain_scan x y
  generalize plainE h r id l = PE at *
  generalize soundE M = SE at *
  have HSB : Shut (∀ m ∈ l, (M.length : Int) ≤ m.ix → seatedB M.length l = false) := fun m hm hx => by
    show _ = _
    unfold seatedB
    rw [List.all_eq_false]
    exact ⟨m, hm, by simp; omega⟩
  have HSB2 : Shut (seatedB M.length (l.take l.length) = true → seatedB M.length l = true) := by rw [List.take_length]; exact fun q => q
  generalize seatedB M.length l = SB at *
  obtain ⟨n, hn⟩ : ∃ n, Hid (l.length = n) := ⟨_, rfl⟩
  have hn' : l.length = n := hn.out
  rw [hn'] at hle HK HE HMS HPP HSC HSB2
  obtain ⟨cn, hcn⟩ : ∃ cn, Hid (M.length = cn) := ⟨_, rfl⟩
  have hcn' : M.length = cn := hcn.out
  rw [hcn'] at HK HSND hw1 HSB HSB2
  rw [hcn']
  clear hn' hcn'
  have hsn := HSND.out w2 HREF
  obtain ⟨k24, kR, k34, _⟩ := HK.out w2 HREF
  go_enter Try.func8, Try.ntmps8
  go_wp2_with fail
  try rw [hw1]
  try rw [s1]
  try rw [hw2]
  clear hw1 hw2 s1
  refine hsn.mono ?_
  rintro e w3 ⟨rfl, t3⟩
  clear hsn k24 kR k34 hR
  by_cases hSE : SE = 0
  · subst hSE
    have HE2 : Shut (E = if PE ≠ 0 then PE else if n = 0 then 127 else if SB = false then 101 else 0) := by show _ = _; rw [HE.out]; simp
    clear HE
    have hpl := HPLN.out w3 t3
    obtain ⟨_, kR, _⟩ := HK.out w3 t3
    have HT3 := shut t3
    clear t3
    go_wp2_with (refine wpList_load_row rfl 30 (.tmp 3) rfl (w.heap.size + 1) rfl 30 CT _ _ kR Try.underlying30 rfl hi30 ?_)
    refine hpl.mono ?_
    rintro e w4 ⟨rfl, t4⟩
    have HT4 := shut (HT3.out.then_no t4)
    clear hpl t4 kR HT3
    by_cases hPE : PE = 0
    · subst hPE
      have HE3 : Shut (E = if n = 0 then 127 else if SB = false then 101 else 0) := by show _ = _; rw [HE2.out]; simp
      clear HE2
      obtain ⟨k24, _, k34, kT, _⟩ := HK.out w4 HT4.out
      have HKT := shut kT
      clear kT
      by_cases h0 : n = 0
      · have HE4 : Shut (E = 127) := by show _ = _; rw [HE3.out, if_pos h0]
        have h0' : ((n : Int) == 0) = true := by simp; omega
        clear h0
        go_wp2_with fail
        go_ret2
        exact ⟨0, by rw [HE4.out]; rfl, (fun q => absurd (HE4.out.symm.trans q) (by decide)), (fun _ => rfl), HKT.out⟩
      have h0' : ((n : Int) == 0) = false := by simp; omega
      have HN0 := shut h0
      have hsc := HSC.out (by trivial) h0
      have HSCN := shut hsc
      clear h0 hsc HSC
      go_wp2_with fail
      clear k24 k34
      have HPB : Shut (∀ k, seatedB cn (l.take k) = true → psum M (l.take k) ≤ tot M) := fun k hb => by
        have := (scanM_sum (M := M) (l.take k) 0 (scanM_take l _ k HSCN.out) (by rw [hcn.out]; exact hb)).1
        simpa using this
      have htt := HTT.out (by trivial)
      go_loopw [7, 8] (fun xs xc wr => ∃ k t : Nat, k ≤ n ∧ xc = .int .i64 k ∧ xs = .int .u64 t ∧ Shut (psum M (l.take k) = t ∧ seatedB cn (l.take k) = true ∧ Turn no w2 wr)) (fun _ xc _ => n - (intOf xc).toNat)
      case atStart => exact ⟨0, 0, by omega, rfl, rfl, by simp [psum], by simp [seatedB], HT4.out⟩
      case round =>
        obtain ⟨k, t, hk, rfl, rfl, HI⟩ := hrel
        obtain ⟨k24, _, k34, kT, kA, kM⟩ := HK.out wr HI.out.2.2
        by_cases hkn : k < n
        · obtain ⟨m, hm⟩ : ∃ m, l[k]? = some m := ⟨l[k]'(by rw [hn.out]; exact hkn), List.getElem?_eq_getElem _⟩
          obtain ⟨b, off, rfl, c⟩ := kA.cells k m hm
          have hml : m ∈ l := List.mem_of_getElem? hm
          have h0x : 0 ≤ m.ix := scanM_pos l _ HSCN.out m hml
          have hxn : ((m.ix.toNat : Nat) : Int) = m.ix := by omega
          have c0 : wr.cell? ⟨b, off + k * 18, none⟩ = some (.int .i64 m.ix) := c 0 _ rfl
          rw [← hxn] at c0
          have hlt' : (k : Int) < (n : Int) := by omega
          have hk1 : Hid (k + 1 ≤ n) := hkn
          have HM := shut hm
          have HML := shut hml
          have HXN := shut hxn
          have HD : Shut (∀ W, Turn no wr W → W.cell? ⟨w.heap.size, 0, none⟩ = some (.slice ca cn cc) ∧ W.cell? ⟨w.heap.size + 1, 34, none⟩ = some (.slice (some ⟨b, off, none⟩) n cap) ∧ W.cell? ⟨b, off + k * 18, none⟩ = some (.int .i64 m.ix.toNat)) := fun W t => ⟨t.keep k24 (fun q => q), t.keep k34 (fun q => q), t.keep c0 (fun q => q)⟩
          generalize m.ix.toNat = xi at *
          have hneg : ¬ (xi : Int) < 0 := by omega
          clear c kA kT hm hml h0x hxn c0
          go_upto_region 13 with fail
          go_cut [54] from 36 to 67 (fun c wx => c = .bool (decide (cn ≤ xi)) ∧ Shut (Turn no wr wx))
          case first =>
            clear k24 k34
            refine wp_region_held_drew (S := fun W => Turn no wr W) (by kernel_rfl) (Turn.refl no wr).drew (fun hHeld => ?_)
            refine' wpAnyH_take (i := 0) (v := .pointer (some ⟨w.heap.size + 1, 34, none⟩)) rfl (by kernel_rfl) (by kernel_rfl) (by kernel_rfl) (fun _ _ _ h => h) (Or.inl ⟨by kernel_rfl, fun W hW => ?y1⟩) hHeld ?r1
            · go_simp
            refine' wpAnyH_take (i := 1) (v := .slice (some ⟨b, off, none⟩) n cap) rfl (by kernel_rfl) (by kernel_rfl) (by kernel_rfl) (fun _ _ _ h => h) (Or.inl ⟨by kernel_rfl, fun W hW => ?y2⟩) hHeld ?r2
            · obtain ⟨g0, g1, g2⟩ := HD.out W hW
              go_simp
            refine' wpAnyH_take (i := 2) (v := .int .i64 k) rfl (by kernel_rfl) (by kernel_rfl) (by kernel_rfl) (fun _ _ _ h => h) (Or.inl ⟨by kernel_rfl, fun W hW => ?y3⟩) hHeld ?r3
            · go_simp
            refine' wpAnyH_take (i := 3) (v := .pointer (some ⟨b, off + k * 18, none⟩)) rfl (by kernel_rfl) (by kernel_rfl) (by kernel_rfl) (fun _ _ _ h => h) (Or.inl ⟨by kernel_rfl, fun W hW => ?y4⟩) hHeld ?r4
            · go_simp
            refine' wpAnyH_take (i := 4) (v := .pointer (some ⟨b, off + k * 18, none⟩)) rfl (by kernel_rfl) (by kernel_rfl) (by kernel_rfl) (fun _ _ _ h => h) (Or.inl ⟨by kernel_rfl, fun W hW => ?y5⟩) hHeld ?r5
            · go_simp
            refine' wpAnyH_take (i := 5) (v := .int .i64 xi) rfl (by kernel_rfl) (by kernel_rfl) (by kernel_rfl) (fun _ _ _ h => h) (Or.inl ⟨by kernel_rfl, fun W hW => ?y6⟩) hHeld ?r6
            · obtain ⟨g0, g1, g2⟩ := HD.out W hW
              go_simp
            refine' wpAnyH_take (i := 6) (v := .bool false) rfl (by kernel_rfl) (by kernel_rfl) (by kernel_rfl) (fun _ _ _ h => h) (Or.inl ⟨by kernel_rfl, fun W hW => ?y7⟩) hHeld ?r7
            · go_simp
            refine' wpAnyH_take (i := 7) (v := .bool false) rfl (by kernel_rfl) (by kernel_rfl) (by kernel_rfl) (fun _ _ _ h => h) (Or.inl ⟨by kernel_rfl, fun W hW => ?y8⟩) hHeld ?r8
            · go_simp
            refine' wpAnyH_take (i := 8) (v := .pointer (some ⟨w.heap.size + 1, 34, none⟩)) rfl (by kernel_rfl) (by kernel_rfl) (by kernel_rfl) (fun _ _ _ h => h) (Or.inl ⟨by kernel_rfl, fun W hW => ?y9⟩) hHeld ?r9
            · go_simp
            refine' wpAnyH_take (i := 9) (v := .slice (some ⟨b, off, none⟩) n cap) rfl (by kernel_rfl) (by kernel_rfl) (by kernel_rfl) (fun _ _ _ h => h) (Or.inl ⟨by kernel_rfl, fun W hW => ?y10⟩) hHeld ?r10
            · obtain ⟨g0, g1, g2⟩ := HD.out W hW
              go_simp
            refine' wpAnyH_take (i := 10) (v := .int .i64 k) rfl (by kernel_rfl) (by kernel_rfl) (by kernel_rfl) (fun _ _ _ h => h) (Or.inl ⟨by kernel_rfl, fun W hW => ?y11⟩) hHeld ?r11
            · go_simp
            refine' wpAnyH_take (i := 11) (v := .pointer (some ⟨b, off + k * 18, none⟩)) rfl (by kernel_rfl) (by kernel_rfl) (by kernel_rfl) (fun _ _ _ h => h) (Or.inl ⟨by kernel_rfl, fun W hW => ?y12⟩) hHeld ?r12
            · go_simp
            refine' wpAnyH_take (i := 12) (v := .pointer (some ⟨b, off + k * 18, none⟩)) rfl (by kernel_rfl) (by kernel_rfl) (by kernel_rfl) (fun _ _ _ h => h) (Or.inl ⟨by kernel_rfl, fun W hW => ?y13⟩) hHeld ?r13
            · go_simp
            refine' wpAnyH_take (i := 13) (v := .int .i64 xi) rfl (by kernel_rfl) (by kernel_rfl) (by kernel_rfl) (fun _ _ _ h => h) (Or.inl ⟨by kernel_rfl, fun W hW => ?y14⟩) hHeld ?r14
            · obtain ⟨g0, g1, g2⟩ := HD.out W hW
              go_simp
            refine' wpAnyH_take (i := 14) (v := .pointer (some ⟨w.heap.size, 0, none⟩)) rfl (by kernel_rfl) (by kernel_rfl) (by kernel_rfl) (fun _ _ _ h => h) (Or.inl ⟨by kernel_rfl, fun W hW => ?y15⟩) hHeld ?r15
            · go_simp
            refine' wpAnyH_take (i := 15) (v := .slice ca cn cc) rfl (by kernel_rfl) (by kernel_rfl) (by kernel_rfl) (fun _ _ _ h => h) (Or.inl ⟨by kernel_rfl, fun W hW => ?y16⟩) hHeld ?r16
            · obtain ⟨g0, g1, g2⟩ := HD.out W hW
              go_simp
            refine' wpAnyH_take (i := 16) (v := .int .i64 cn) rfl (by kernel_rfl) (by kernel_rfl) (by kernel_rfl) (fun _ _ _ h => h) (Or.inl ⟨by kernel_rfl, fun W hW => ?y17⟩) hHeld ?r17
            · go_simp
            refine' wpAnyH_take (i := 17) (v := .bool (decide ((cn : Int) ≤ (xi : Int)))) rfl (by kernel_rfl) (by kernel_rfl) (by kernel_rfl) (fun _ _ _ h => h) (Or.inl ⟨by kernel_rfl, fun W hW => ?y18⟩) hHeld ?r18
            · go_simp
            refine' wpAnyH_take (i := 18) (v := .bool (decide ((cn : Int) ≤ (xi : Int)))) rfl (by kernel_rfl) (by kernel_rfl) (by kernel_rfl) (fun _ _ _ h => h) (Or.inl ⟨by kernel_rfl, fun W hW => ?y19⟩) hHeld ?r19
            · go_simp
            refine wpAnyH_done (by kernel_rfl) ?_ _
            go_simp
            go_wp2_with fail
            go_meet
            case rel => exact ⟨rfl, hHeld⟩
          case rest =>
            obtain ⟨rfl, HX⟩ := hcut
            obtain ⟨wx, rfl⟩ : ∃ wx : World, wx = wc := ⟨_, rfl⟩
            by_cases hge : cn ≤ xi
            · have HB1 : Shut (SB = false) := HSB.out m HML.out (by have := HXN.out; omega)
              have HE4 : Shut (E = 101) := by show _ = _; rw [HE3.out, if_neg HN0.out, HB1.out]; rfl
              have HKT := shut (HK.out wx (HI.out.2.2.then_no HX.out)).2.2.2.1
              rw [show decide (cn ≤ xi) = true by simpa using hge]
              clear k24 k34 kM
              go_wp2_with fail
              go_ret2
              exact ⟨0, by rw [HE4.out]; rfl, (fun q => absurd (HE4.out.symm.trans q) (by decide)), (fun _ => rfl), HKT.out⟩
            · rw [show decide (cn ≤ xi) = false by simpa using hge]
              have hlx : (xi : Int) < (cn : Int) := by omega
              have hxM : xi < M.length := by rw [hcn.out]; omega
              obtain ⟨x, hx⟩ : ∃ x, M[xi]? = some x := ⟨M[xi]'hxM, List.getElem?_eq_getElem _⟩
              obtain ⟨ya, yc, ey, kM⟩ := kM
              rw [hcn.out] at ey
              cases ey
              obtain ⟨b2, off2, rfl, d0, d1, d2⟩ := kM.cells _ x hx
              have HXP : Shut (pwOf M m = x.pw) := by
                show _ = _
                have h1 := HXN.out
                have h2 : m.ix.toNat = xi := by omega
                simp [pwOf, h2, List.getD_eq_getElem?_getD, hx]
              have HSB3 : Shut (seatedB cn (l.take (k + 1)) = true) := by
                show _ = _
                have h1 := HI.out.2.1
                unfold seatedB at h1 ⊢
                rw [List.take_add_one, HM.out, List.all_append, h1]
                have := HXN.out
                simp
                omega
              have HPT := shut (psum_take_succ M l k m HM.out)
              have hsum : t + x.pw ≤ 1152921504606846975 := by
                have h1 := HPB.out (k + 1) HSB3.out
                have h2 := HPT.out
                have h3 := HI.out.1
                have h4 := HXP.out
                omega
              have hadd : IntKind.u64.wrap ((t : Int) + (x.pw : Int)) = ((t + x.pw : Nat) : Int) := by rw [IntKind.wrap_u64]; omega
              have HD2 : Shut (∀ W, Turn no wx W → W.cell? ⟨w.heap.size, 0, none⟩ = some (.slice (some ⟨b2, off2, none⟩) cn cc) ∧ W.cell? ⟨w.heap.size + 1, 34, none⟩ = some (.slice (some ⟨b, off, none⟩) n cap) ∧ W.cell? ⟨b, off + k * 18, none⟩ = some (.int .i64 xi) ∧ W.cell? ⟨b2, off2 + xi * 3 + 1, none⟩ = some (.int .u64 x.pw)) := fun W t => by
                obtain ⟨g0, g1, g2⟩ := HD.out W (HX.out.then_no t)
                exact ⟨g0, g1, g2, (HX.out.then_no t).keep d1 (fun q => q)⟩
              clear k24 k34 kM d0 d1 d2 hx hxM hge
              go_upto_region 15 with fail
              refine wp_region_held_drew (S := fun W => Turn no wx W) (by kernel_rfl) (Turn.refl no wx).drew (fun hHeld => ?_)
              refine' wpAnyH_take (i := 0) (v := .int .u64 t) rfl (by kernel_rfl) (by kernel_rfl) (by kernel_rfl) (fun _ _ _ h => h) (Or.inl ⟨by kernel_rfl, fun W hW => ?y20⟩) hHeld ?r20
              · go_simp
              refine' wpAnyH_take (i := 1) (v := .pointer (some ⟨w.heap.size, 0, none⟩)) rfl (by kernel_rfl) (by kernel_rfl) (by kernel_rfl) (fun _ _ _ h => h) (Or.inl ⟨by kernel_rfl, fun W hW => ?y21⟩) hHeld ?r21
              · go_simp
              refine' wpAnyH_take (i := 2) (v := .slice (some ⟨b2, off2, none⟩) cn cc) rfl (by kernel_rfl) (by kernel_rfl) (by kernel_rfl) (fun _ _ _ h => h) (Or.inl ⟨by kernel_rfl, fun W hW => ?y22⟩) hHeld ?r22
              · obtain ⟨g0, g1, g2, g3⟩ := HD2.out W hW
                go_simp
              refine' wpAnyH_take (i := 3) (v := .pointer (some ⟨w.heap.size + 1, 34, none⟩)) rfl (by kernel_rfl) (by kernel_rfl) (by kernel_rfl) (fun _ _ _ h => h) (Or.inl ⟨by kernel_rfl, fun W hW => ?y23⟩) hHeld ?r23
              · go_simp
              refine' wpAnyH_take (i := 4) (v := .slice (some ⟨b, off, none⟩) n cap) rfl (by kernel_rfl) (by kernel_rfl) (by kernel_rfl) (fun _ _ _ h => h) (Or.inl ⟨by kernel_rfl, fun W hW => ?y24⟩) hHeld ?r24
              · obtain ⟨g0, g1, g2, g3⟩ := HD2.out W hW
                go_simp
              refine' wpAnyH_take (i := 5) (v := .int .i64 k) rfl (by kernel_rfl) (by kernel_rfl) (by kernel_rfl) (fun _ _ _ h => h) (Or.inl ⟨by kernel_rfl, fun W hW => ?y25⟩) hHeld ?r25
              · go_simp
              refine' wpAnyH_take (i := 6) (v := .pointer (some ⟨b, off + k * 18, none⟩)) rfl (by kernel_rfl) (by kernel_rfl) (by kernel_rfl) (fun _ _ _ h => h) (Or.inl ⟨by kernel_rfl, fun W hW => ?y26⟩) hHeld ?r26
              · go_simp
              refine' wpAnyH_take (i := 7) (v := .pointer (some ⟨b, off + k * 18, none⟩)) rfl (by kernel_rfl) (by kernel_rfl) (by kernel_rfl) (fun _ _ _ h => h) (Or.inl ⟨by kernel_rfl, fun W hW => ?y27⟩) hHeld ?r27
              · go_simp
              refine' wpAnyH_take (i := 8) (v := .int .i64 xi) rfl (by kernel_rfl) (by kernel_rfl) (by kernel_rfl) (fun _ _ _ h => h) (Or.inl ⟨by kernel_rfl, fun W hW => ?y28⟩) hHeld ?r28
              · obtain ⟨g0, g1, g2, g3⟩ := HD2.out W hW
                go_simp
              refine' wpAnyH_take (i := 9) (v := .pointer (some ⟨b2, off2 + xi * 3, none⟩)) rfl (by kernel_rfl) (by kernel_rfl) (by kernel_rfl) (fun _ _ _ h => h) (Or.inl ⟨by kernel_rfl, fun W hW => ?y29⟩) hHeld ?r29
              · go_simp
              refine' wpAnyH_take (i := 10) (v := .pointer (some ⟨b2, off2 + xi * 3 + 1, none⟩)) rfl (by kernel_rfl) (by kernel_rfl) (by kernel_rfl) (fun _ _ _ h => h) (Or.inl ⟨by kernel_rfl, fun W hW => ?y30⟩) hHeld ?r30
              · go_simp
              refine' wpAnyH_take (i := 11) (v := .int .u64 x.pw) rfl (by kernel_rfl) (by kernel_rfl) (by kernel_rfl) (fun _ _ _ h => h) (Or.inl ⟨by kernel_rfl, fun W hW => ?y31⟩) hHeld ?r31
              · obtain ⟨g0, g1, g2, g3⟩ := HD2.out W hW
                go_simp
              refine' wpAnyH_take (i := 12) (v := .int .u64 ((t + x.pw : Nat) : Int)) rfl (by kernel_rfl) (by kernel_rfl) (by kernel_rfl) (fun _ _ _ h => h) (Or.inl ⟨by kernel_rfl, fun W hW => ?y32⟩) hHeld ?r32
              · go_simp
              refine' wpAnyH_take (i := 13) (v := .int .u64 ((t + x.pw : Nat) : Int)) rfl (by kernel_rfl) (by kernel_rfl) (by kernel_rfl) (fun _ _ _ h => h) (Or.inl ⟨by kernel_rfl, fun W hW => ?y33⟩) hHeld ?r33
              · go_simp
              refine wpAnyH_done (by kernel_rfl) ?_ _
              go_simp
              have HN : Shut (psum M (l.take (k + 1)) = t + x.pw ∧ seatedB cn (l.take (k + 1)) = true ∧ Turn no w2 wx.drew) := ⟨by rw [HPT.out, HI.out.1, HXP.out], HSB3.out, (HI.out.2.2.then_no HX.out).then_no hHeld⟩
              clear hHeld
              go_wp2_with fail
              go_roundw
              case rel => exact ⟨k + 1, t + x.pw, hk1.out, by go_num, by go_num, HN⟩
              case measure => have := hk1.out; simp [intOf]; omega
        · have hkn' : n = k := by omega
          subst hkn'
          have hlt' : ¬ (n : Int) < (n : Int) := by omega
          have HB1 : Shut (SB = true) := HSB2.out HI.out.2.1
          have HE4 : Shut (E = 0) := by show _ = _; rw [HE3.out, if_neg HN0.out, HB1.out]; rfl
          obtain ⟨hsit, hps, h64⟩ := HMS.out (by trivial) HN0.out HB1.out
          have hpos := HPP.out (by trivial) hsit HN0.out
          have HAL : Shut (psum M l = t) := by
            have h1 := HI.out.1
            rw [List.take_of_length_le (by rw [hn.out]; exact Nat.le_refl _)] at h1
            exact h1
          have HSIT := shut hsit
          have hA60 : (t : Int) ≤ 1152921504606846975 := by have := HAL.out; omega
          have HPOS : Shut (0 < t) := by have := HAL.out; show _ < _; omega
          have HIT := shut HI.out.2.2
          have HN2 : Shut (∀ W, Turn no wr W → W.cell? ⟨w.heap.size, 0, none⟩ = some (.slice ca cn cc) ∧ W.cell? ⟨w.heap.size + 1, 34, none⟩ = some (.slice a n cap) ∧ Turn no w W ∧ KsAt W a cap l ∧ Ms W (.slice ca cn cc) M) := fun W t => by
            obtain ⟨q1, _, q3, q4, q5, q6⟩ := HK.out W (HIT.out.then_no t)
            exact ⟨q1, q3, q4, q5, q6⟩
          clear hsit hps hpos kT kA kM k24 HE3 HMS HPP HPB HSB HSB2 HI hk htt HIT
          go_wp2_with fail
          clear k34
          obtain ⟨wo, rfl⟩ : ∃ wo : World, wo = wr := ⟨_, rfl⟩
          go_loopw [9, 10, 11] (fun xf xb xc wr => ∃ (k b : Nat) (fd : Bool), k ≤ n ∧ xc = .int .i64 k ∧ xb = .int .u64 b ∧ xf = .bool fd ∧ Shut (BestAt M l t k fd b ∧ Turn no wo wr)) (fun _ _ xc _ => n - (intOf xc).toNat)
          case atStart => exact ⟨0, 0, false, by omega, rfl, rfl, rfl, Or.inl ⟨rfl, rfl, by simp⟩, Turn.refl _ _⟩
          case round =>
            obtain ⟨k, bb, fd, hk, rfl, rfl, rfl, HI⟩ := hrel
            obtain ⟨k24, k34, kT, kA, kM⟩ := HN2.out wr HI.out.2
            by_cases hkn : k < n
            · obtain ⟨m, hm⟩ : ∃ m, l[k]? = some m := ⟨l[k]'(by rw [hn.out]; exact hkn), List.getElem?_eq_getElem _⟩
              obtain ⟨b, off, rfl, c⟩ := kA.cells k m hm
              have c1 : wr.cell? ⟨b, off + k * 18 + 1, none⟩ = some (.int .u64 m.tm) := c 1 _ rfl
              have hlt2 : (k : Int) < (n : Int) := by omega
              have hk1 : Hid (k + 1 ≤ n) := hkn
              have HM := shut hm
              clear c kA kT kM hm
              go_wp2_with fail
              clear k24 k34 c1
              obtain ⟨wi, rfl⟩ : ∃ wi : World, wi = wr := ⟨_, rfl⟩
              go_loopw [13, 14] (fun xs xc wr => ∃ j s : Nat, j ≤ n ∧ xc = .int .i64 j ∧ xs = .int .u64 s ∧ Shut (below M (l.take j) m.tm = s ∧ Turn no wi wr)) (fun _ xc _ => n - (intOf xc).toNat)
              case atStart => exact ⟨0, 0, by omega, rfl, rfl, by simp [below, psum], Turn.refl _ _⟩
              case round =>
                obtain ⟨j, s, hj, rfl, rfl, HJ⟩ := hrel
                obtain ⟨k24, k34, kT, kA, kM⟩ := HN2.out wr (HI.out.2.then_no HJ.out.2)
                by_cases hjn : j < n
                · obtain ⟨y, hy⟩ : ∃ y, l[j]? = some y := ⟨l[j]'(by rw [hn.out]; exact hjn), List.getElem?_eq_getElem _⟩
                  obtain ⟨b', off', e', c⟩ := kA.cells j y hy
                  cases e'
                  have hj1 : Hid (j + 1 ≤ n) := hjn
                  have hlt3 : (j : Int) < (n : Int) := by omega
                  have c0 : wr.cell? ⟨b, off + j * 18, none⟩ = some (.int .i64 y.ix) := c 0 _ rfl
                  have c1 : wr.cell? ⟨b, off + j * 18 + 1, none⟩ = some (.int .u64 y.tm) := c 1 _ rfl
                  have HBT := shut (below_take_succ M l m.tm j y hy)
                  have HBL := shut (below_take_le M l m.tm (j + 1))
                  obtain ⟨x, hx, hxp, hxi⟩ := HSIT.out.at (List.mem_of_getElem? hy)
                  have hxl : y.ix.toNat < cn := by rw [← hcn.out]; exact (List.getElem?_eq_some_iff.1 hx).1
                  obtain ⟨ya, yc, ey, kM⟩ := kM
                  rw [hcn.out] at ey
                  cases ey
                  obtain ⟨b2, off2, rfl, d0, d1, d2⟩ := kM.cells _ x hx
                  rw [← hxi] at c0
                  have HXP := shut hxp
                  generalize y.ix.toNat = xi at *
                  have hlx : (xi : Int) < (cn : Int) := by omega
                  clear c kA kM kT hy hx hxp hxi d0 d2
                  by_cases hle2 : y.tm ≤ m.tm
                  · have hle2' : (y.tm : Int) ≤ (m.tm : Int) := by omega
                    have hsum : s + x.pw ≤ t := by
                      have h1 := HBT.out
                      have h2 := HBL.out
                      have h3 := HJ.out.1
                      have h4 := HXP.out
                      have h5 := HAL.out
                      rw [if_pos hle2] at h1
                      omega
                    have HNS : Shut (below M (l.take (j + 1)) m.tm = s + x.pw) := by show _ = _; rw [HBT.out, if_pos hle2, HJ.out.1, HXP.out]
                    have hadd : IntKind.u64.wrap ((s : Int) + (x.pw : Int)) = ((s + x.pw : Nat) : Int) := by rw [IntKind.wrap_u64]; omega
                    have HD2 : Shut (∀ W, Turn no wr W → W.cell? ⟨w.heap.size, 0, none⟩ = some (.slice (some ⟨b2, off2, none⟩) cn cc) ∧ W.cell? ⟨w.heap.size + 1, 34, none⟩ = some (.slice (some ⟨b, off, none⟩) n cap) ∧ W.cell? ⟨b, off + j * 18, none⟩ = some (.int .i64 xi) ∧ W.cell? ⟨b2, off2 + xi * 3 + 1, none⟩ = some (.int .u64 x.pw)) := fun W t => ⟨t.keep k24 (fun q => q), t.keep k34 (fun q => q), t.keep c0 (fun q => q), t.keep d1 (fun q => q)⟩
                    clear hle2
                    go_upto_region 27 with fail
                    refine wp_region_held_drew (S := fun W => Turn no wr W) (by kernel_rfl) (Turn.refl no wr).drew (fun hHeld => ?_)
                    refine' wpAnyH_take (i := 0) (v := .int .u64 s) rfl (by kernel_rfl) (by kernel_rfl) (by kernel_rfl) (fun _ _ _ h => h) (Or.inl ⟨by kernel_rfl, fun W hW => ?y34⟩) hHeld ?r34
                    · go_simp
                    refine' wpAnyH_take (i := 1) (v := .pointer (some ⟨w.heap.size, 0, none⟩)) rfl (by kernel_rfl) (by kernel_rfl) (by kernel_rfl) (fun _ _ _ h => h) (Or.inl ⟨by kernel_rfl, fun W hW => ?y35⟩) hHeld ?r35
                    · go_simp
                    refine' wpAnyH_take (i := 2) (v := .slice (some ⟨b2, off2, none⟩) cn cc) rfl (by kernel_rfl) (by kernel_rfl) (by kernel_rfl) (fun _ _ _ h => h) (Or.inl ⟨by kernel_rfl, fun W hW => ?y36⟩) hHeld ?r36
                    · obtain ⟨g0, g1, g2, g3⟩ := HD2.out W hW
                      go_simp
                    refine' wpAnyH_take (i := 3) (v := .pointer (some ⟨w.heap.size + 1, 34, none⟩)) rfl (by kernel_rfl) (by kernel_rfl) (by kernel_rfl) (fun _ _ _ h => h) (Or.inl ⟨by kernel_rfl, fun W hW => ?y37⟩) hHeld ?r37
                    · go_simp
                    refine' wpAnyH_take (i := 4) (v := .slice (some ⟨b, off, none⟩) n cap) rfl (by kernel_rfl) (by kernel_rfl) (by kernel_rfl) (fun _ _ _ h => h) (Or.inl ⟨by kernel_rfl, fun W hW => ?y38⟩) hHeld ?r38
                    · obtain ⟨g0, g1, g2, g3⟩ := HD2.out W hW
                      go_simp
                    refine' wpAnyH_take (i := 5) (v := .int .i64 j) rfl (by kernel_rfl) (by kernel_rfl) (by kernel_rfl) (fun _ _ _ h => h) (Or.inl ⟨by kernel_rfl, fun W hW => ?y39⟩) hHeld ?r39
                    · go_simp
                    refine' wpAnyH_take (i := 6) (v := .pointer (some ⟨b, off + j * 18, none⟩)) rfl (by kernel_rfl) (by kernel_rfl) (by kernel_rfl) (fun _ _ _ h => h) (Or.inl ⟨by kernel_rfl, fun W hW => ?y40⟩) hHeld ?r40
                    · go_simp
                    refine' wpAnyH_take (i := 7) (v := .pointer (some ⟨b, off + j * 18, none⟩)) rfl (by kernel_rfl) (by kernel_rfl) (by kernel_rfl) (fun _ _ _ h => h) (Or.inl ⟨by kernel_rfl, fun W hW => ?y41⟩) hHeld ?r41
                    · go_simp
                    refine' wpAnyH_take (i := 8) (v := .int .i64 xi) rfl (by kernel_rfl) (by kernel_rfl) (by kernel_rfl) (fun _ _ _ h => h) (Or.inl ⟨by kernel_rfl, fun W hW => ?y42⟩) hHeld ?r42
                    · obtain ⟨g0, g1, g2, g3⟩ := HD2.out W hW
                      go_simp
                    refine' wpAnyH_take (i := 9) (v := .pointer (some ⟨b2, off2 + xi * 3, none⟩)) rfl (by kernel_rfl) (by kernel_rfl) (by kernel_rfl) (fun _ _ _ h => h) (Or.inl ⟨by kernel_rfl, fun W hW => ?y43⟩) hHeld ?r43
                    · go_simp
                    refine' wpAnyH_take (i := 10) (v := .pointer (some ⟨b2, off2 + xi * 3 + 1, none⟩)) rfl (by kernel_rfl) (by kernel_rfl) (by kernel_rfl) (fun _ _ _ h => h) (Or.inl ⟨by kernel_rfl, fun W hW => ?y44⟩) hHeld ?r44
                    · go_simp
                    refine' wpAnyH_take (i := 11) (v := .int .u64 x.pw) rfl (by kernel_rfl) (by kernel_rfl) (by kernel_rfl) (fun _ _ _ h => h) (Or.inl ⟨by kernel_rfl, fun W hW => ?y45⟩) hHeld ?r45
                    · obtain ⟨g0, g1, g2, g3⟩ := HD2.out W hW
                      go_simp
                    refine' wpAnyH_take (i := 12) (v := .int .u64 ((s + x.pw : Nat) : Int)) rfl (by kernel_rfl) (by kernel_rfl) (by kernel_rfl) (fun _ _ _ h => h) (Or.inl ⟨by kernel_rfl, fun W hW => ?y46⟩) hHeld ?r46
                    · go_simp
                    refine' wpAnyH_take (i := 13) (v := .int .u64 ((s + x.pw : Nat) : Int)) rfl (by kernel_rfl) (by kernel_rfl) (by kernel_rfl) (fun _ _ _ h => h) (Or.inl ⟨by kernel_rfl, fun W hW => ?y47⟩) hHeld ?r47
                    · go_simp
                    refine wpAnyH_done (by kernel_rfl) ?_ _
                    go_simp
                    have HN : Shut (below M (l.take (j + 1)) m.tm = s + x.pw ∧ Turn no wi wr.drew) := ⟨HNS.out, HJ.out.2.then_no hHeld⟩
                    clear hHeld k24 k34 c0 c1 d1
                    go_wp2_with fail
                    go_roundw
                    case rel => exact ⟨j + 1, s + x.pw, hj1.out, by go_num, by go_num, HN⟩
                    case measure => have := hj1.out; simp [intOf]; omega
                  · have hle2' : ¬ (y.tm : Int) ≤ (m.tm : Int) := by omega
                    have HN : Shut (below M (l.take (j + 1)) m.tm = s ∧ Turn no wi wr) := ⟨by rw [HBT.out, if_neg hle2, HJ.out.1]; rfl, HJ.out.2⟩
                    clear hle2
                    go_wp2_with fail
                    go_roundw
                    case rel => exact ⟨j + 1, s, hj1.out, by go_num, rfl, HN⟩
                    case measure => have := hj1.out; simp [intOf]; omega
                · have hjn' : n = j := by omega
                  subst hjn'
                  have hlt3 : ¬ (n : Int) < (n : Int) := by omega
                  have HBE : Shut (below M l m.tm = s) := by
                    have h1 := HJ.out.1
                    rw [List.take_of_length_le (by rw [hn.out]; exact Nat.le_refl _)] at h1
                    exact h1
                  have hsA : s ≤ t := by have h1 := below_le M l m.tm; have h2 := HBE.out; have h3 := HAL.out; omega
                  have hmul : IntKind.u64.wrap (2 * (s : Int)) = 2 * (s : Int) := by rw [IntKind.wrap_u64]; omega
                  have HIJ := shut (HI.out.2.then_no HJ.out.2)
                  have HBA := shut HI.out.1
                  clear kA kM kT HJ HI
                  by_cases hq : t < 2 * s
                  · have hq' : (t : Int) < 2 * (s : Int) := by omega
                    have HQ : Shut (t < 2 * below M l m.tm) := by show _ < _; rw [HBE.out]; exact hq
                    cases fd with
                    | false =>
                      have HNB := shut (HBA.out.take HM.out HQ.out (Or.inl rfl))
                      clear HBA hq
                      go_wp2_with fail
                      go_roundw
                      case rel => exact ⟨k + 1, m.tm, true, hk1.out, by go_num, rfl, rfl, HNB.out, HIJ.out⟩
                      case measure => have := hk1.out; simp [intOf]; omega
                    | true =>
                      by_cases hb : m.tm < bb
                      · have hb' : (m.tm : Int) < (bb : Int) := by omega
                        have HNB := shut (HBA.out.take HM.out HQ.out (Or.inr hb))
                        clear HBA hq hb
                        go_wp2_with fail
                        go_roundw
                        case rel => exact ⟨k + 1, m.tm, true, hk1.out, by go_num, rfl, rfl, HNB.out, HIJ.out⟩
                        case measure => have := hk1.out; simp [intOf]; omega
                      · have hb' : ¬ (m.tm : Int) < (bb : Int) := by omega
                        have HNB := shut (HBA.out.skip HM.out (Or.inr ⟨rfl, by omega⟩))
                        clear HBA hq hb
                        go_wp2_with fail
                        go_roundw
                        case rel => exact ⟨k + 1, bb, true, hk1.out, by go_num, rfl, rfl, HNB.out, HIJ.out⟩
                        case measure => have := hk1.out; simp [intOf]; omega
                  · have hq' : ¬ (t : Int) < 2 * (s : Int) := by omega
                    have HNB := shut (HBA.out.skip HM.out (Or.inl (by rw [HBE.out]; omega)))
                    clear HBA hq
                    go_wp2_with fail
                    go_roundw
                    case rel => exact ⟨k + 1, bb, fd, hk1.out, by go_num, rfl, rfl, HNB.out, HIJ.out⟩
                    case measure => have := hk1.out; simp [intOf]; omega
            · have hkn' : n = k := by omega
              subst hkn'
              have hlt2 : ¬ (n : Int) < (n : Int) := by omega
              have HMD := shut (HI.out.1.done hn.out HAL.out HPOS.out HN0.out)
              have HKT := shut kT
              clear kA kM kT HI
              go_wp2_with fail
              go_ret2
              exact ⟨bb, by rw [HE4.out]; rfl, (fun _ => HMD.out), (fun q => absurd HE4.out q), HKT.out⟩
    · have HE3 : Shut (E = PE) := by show _ = _; rw [HE2.out, if_pos hPE]
      have hPE' : (PE != 0) = true := by simpa using hPE
      have HKT := shut (HK.out w4 HT4.out).2.2.2.1
      have HPE := shut hPE
      clear hPE HE2
      go_wp2_with fail
      go_ret2
      exact ⟨0, by rw [HE3.out]; rfl, (fun q => absurd (HE3.out.symm.trans q) HPE.out), (fun _ => rfl), HKT.out⟩
  · have HE3 : Shut (E = SE) := by show _ = _; rw [HE.out, if_pos hSE]
    have hSE' : (SE != 0) = true := by simpa using hSE
    have HKT := shut (HK.out w3 t3).2.2.2.1
    have HSE := shut hSE
    clear hSE HE t3
    go_wp2_with fail
    go_ret2
    exact ⟨0, by rw [HE3.out]; rfl, (fun q => absurd (HE3.out.symm.trans q) HSE.out), (fun _ => rfl), HKT.out⟩
end Go.Proofs.Ytbhimedajfkioaa
