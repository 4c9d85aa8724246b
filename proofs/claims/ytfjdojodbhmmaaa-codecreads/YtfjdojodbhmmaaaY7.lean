/- The document's New; stands. -/
import Derived.Test.YtfjdojodbhmmaaaY6
import Derived.Deep.RegionHeld
namespace Go.Proofs.Ytfjdojodbhmmaaa
open Go.RowKit
set_option linter.unusedVariables false

theorem Own.some_of {w : World} {v : Value} {xs : List UInt8} (h : Own w 5 v (xs.map bv)) {g : Nat} (hg : v.ownBlock = some g) : ∃ g cap, v = .slice (some ⟨g, 0, none⟩) xs.length cap := by
  rcases h.shape with ⟨rfl, _⟩ | ⟨g', cap, cur, rfl, _⟩
  · cases hg
  · exact ⟨g', cap, by simp⟩
set_option maxRecDepth 100000 in
set_option maxHeartbeats 2000000 in
theorem new31 (w : World) (vb : Value) (B : List UInt8) (hb : Bs w vb B) (hle : B.length ≤ 140737488355328) :
    Calls Try.prog 31 #[vb] w fun e w' => ∃ q v, e = .returned (.pointer (some ⟨q, 0, none⟩)) ∧ Rq w' q v B 0 0 ∧ (∀ k, wfoot q v k → w.heap.size ≤ k) ∧ Turn no w w' := by
  have hsr := fun W (t : Turn no w W) => (hb.turn_no t).src (P := Try.prog) Try.underlying25
  obtain ⟨a, cap, rfl⟩ := hb.slice
  obtain ⟨N, hN⟩ : ∃ N, B.length = N := ⟨_, rfl⟩
  rw [hN] at hsr hle ⊢
  have Hsr := shutX hsr
  clear hsr hN hb
  go_enter Try.func31, Try.ntmps31
  go_wp2_with (at_builtin; refine wpList_append_src rfl (.tmp 3) (.tmp 4) rfl Try.underlying25 Try.info5 rfl _ [] rfl (own_empty w 5) _ N (B.map bv) rfl (Hsr.out _ ((Turn.refl _ _).alloc _)) ?b ?m ?_)
  case b => simp; omega
  case m => simp [maxLen]; omega
  intro v1 w1 o1 g1 _
  have F1 := (fr_empty w).append (ys := B) (Turn.refl _ _) o1 g1
  have hg : ∃ g, v1.ownBlock = some g := by
    rcases g1.blk with r | ⟨g, r, _⟩
    · exact ⟨_, r⟩
    · exact ⟨g, r⟩
  obtain ⟨g, hg⟩ := hg
  have nn := Own.some_of F1.own hg
  rw [List.nil_append] at nn F1
  obtain ⟨ad, ln, cp, rfl⟩ := o1.form
  have HF := shutX (And.intro F1 nn)
  clear o1 g1 F1 nn hg
  go_wp2_with fail
  go_ret
  obtain ⟨F1, nn⟩ := HF.out
  refine ⟨w1.heap.size, _, rfl, ⟨heap_alloc_new w1 _, F1.own.turn_no ((Turn.refl no w1).alloc _), Nat.zero_le _, nn⟩, ?_, F1.turn.alloc _⟩
  intro k hk
  rcases hk with rfl | hk
  · exact F1.turn.size
  · exact F1.new k hk
set_option maxRecDepth 100000 in
set_option maxHeartbeats 4000000 in
theorem stands32 (w : World) (p q : Nat) (v u : Value) (bs : List UInt8) (i : Nat) (e0 : Int) (h : Rd w p v bs i e0) (k : Rq w q u bs i e0) (hle : bs.length ≤ 140737488355328) :
    Calls Try.prog 32 #[.pointer (some ⟨p, 0, none⟩), .pointer (some ⟨q, 0, none⟩)] w fun e w' => e = .returned (.bool true) ∧ Turn no w w' := by
  have C17 := at_made w p v bs i e0 h
  have C19 := fun W (t : Turn no w W) => left_made W p v bs i e0 (h.turn_no t)
  have C16 := fun W (t : Turn no w W) => err_any W _ e0 (h.turn_no t).errs
  have C18 := fun W (t : Turn no w W) => end_any W p v bs i e0 (h.turn_no t)
  have C67 := fun W (t : Turn no w W) => left67 e0 (k.turn_no t) hle
  have C68 := fun W (t : Turn no w W) => end68 e0 (k.turn_no t) hle
  have Hc := shutX (fun W (t : Turn no w W) => And.intro (k.turn_no t).c1 (k.turn_no t).c2)
  generalize rend bs i e0 = r at *
  generalize bs.length - i = y at *
  clear h k hle
  go_enter Try.func32, Try.ntmps32
  go_wp2_with (first | (go_at_call 17; refine C17.mono ?_; rintro e w1 ⟨rfl, rfl⟩; have T1 := Turn.refl no w) | (go_at_call 19; refine (C19 _ T1).mono ?_; rintro e w1 ⟨rfl, n1, rfl⟩; have T2 := T1.drewN n1) | (go_at_call 16; refine (C16 _ T2).mono ?_; rintro e w1 ⟨rfl, rfl⟩) | (go_at_call 18; refine (C18 _ T2).mono ?_; rintro e w1 ⟨rfl, n2, rfl⟩; have T3 := T2.drewN n2))
  have HH := shutX (And.intro C67 C68)
  have N15 := num_any
  clear C67 C68 C16 C17 C18 C19
  refine wp_region_held_drew (S := fun W => Turn no w W) (by kernel_rfl) ((Turn.refl no w).drewN _).drew (fun hHeld => ?_)
  refine' wpAnyH_take (i := 0) (v := .int .i64 i) rfl (by kernel_rfl) (by kernel_rfl) (by kernel_rfl) (fun _ _ _ h => h) (Or.inl ⟨by kernel_rfl, fun W hW => ?y1⟩) hHeld ?r1
  · go_simp
  refine' wpAnyH_take (i := 1) (v := .pointer (some ⟨q, 0, none⟩)) rfl (by kernel_rfl) (by kernel_rfl) (by kernel_rfl) (fun _ _ _ h => h) (Or.inl ⟨by kernel_rfl, fun W hW => ?y2⟩) hHeld ?r2
  · go_simp
  refine' wpAnyH_take (i := 2) (v := .pointer (some ⟨q, 0, none⟩)) rfl (by kernel_rfl) (by kernel_rfl) (by kernel_rfl) (fun _ _ _ h => h) (Or.inl ⟨by kernel_rfl, fun W hW => ?y3⟩) hHeld ?r3
  · go_simp
  refine' wpAnyH_take (i := 3) (v := .pointer (some ⟨q, 1, none⟩)) rfl (by kernel_rfl) (by kernel_rfl) (by kernel_rfl) (fun _ _ _ h => h) (Or.inl ⟨by kernel_rfl, fun W hW => ?y4⟩) hHeld ?r4
  · go_simp
  refine' wpAnyH_take (i := 4) (v := .int .i64 i) rfl (by kernel_rfl) (by kernel_rfl) (by kernel_rfl) (fun _ _ _ h => h) (Or.inl ⟨by kernel_rfl, fun W hW => ?y5⟩) hHeld ?r5
  · obtain ⟨x1, x2⟩ := Hc.out W hW
    go_simp
  refine' wpAnyH_take (i := 5) (v := .bool true) rfl (by kernel_rfl) (by kernel_rfl) (by kernel_rfl) (fun _ _ _ h => h) (Or.inl ⟨by kernel_rfl, fun W hW => ?y6⟩) hHeld ?r6
  · go_simp
  refine' wpAnyH_take (i := 6) (v := .bool true) rfl (by kernel_rfl) (by kernel_rfl) (by kernel_rfl) (fun _ _ _ h => h) (Or.inl ⟨by kernel_rfl, fun W hW => ?y7⟩) hHeld ?r7
  · go_simp
  refine' wpAnyH_take (i := 7) (v := .int .i64 y) rfl (by kernel_rfl) (by kernel_rfl) (by kernel_rfl) (fun _ _ _ h => h) (Or.inl ⟨by kernel_rfl, fun W hW => ?y8⟩) hHeld ?r8
  · go_simp
  refine' wpAnyH_take (i := 8) (v := .pointer (some ⟨q, 0, none⟩)) rfl (by kernel_rfl) (by kernel_rfl) (by kernel_rfl) (fun _ _ _ h => h) (Or.inl ⟨by kernel_rfl, fun W hW => ?y9⟩) hHeld ?r9
  · go_simp
  refine wpAnyH_ready (rs := [9]) (by kernel_rfl) (by simp) ?_
  refine AllReadyH.cons rfl (fun K hK => ?_) AllReadyH.nil
  go_simp
  refine (HH.out.1 _ hHeld).mono ?_
  rintro e w4 ⟨rfl, n4, rfl⟩
  refine hK.out _ _ (hHeld.drewN n4) (fun hHeld => ?_)
  clear hK
  refine' wpAnyH_take (i := 10) (v := .bool true) rfl (by kernel_rfl) (by kernel_rfl) (by kernel_rfl) (fun _ _ _ h => h) (Or.inl ⟨by kernel_rfl, fun W hW => ?y10⟩) hHeld ?r10
  · go_simp
  refine' wpAnyH_take (i := 11) (v := .bool true) rfl (by kernel_rfl) (by kernel_rfl) (by kernel_rfl) (fun _ _ _ h => h) (Or.inl ⟨by kernel_rfl, fun W hW => ?y11⟩) hHeld ?r11
  · go_simp
  refine' wpAnyH_take (i := 12) (v := .bool true) rfl (by kernel_rfl) (by kernel_rfl) (by kernel_rfl) (fun _ _ _ h => h) (Or.inl ⟨by kernel_rfl, fun W hW => ?y12⟩) hHeld ?r12
  · go_simp
  refine' wpAnyH_take (i := 13) (v := .int .i64 e0) rfl (by kernel_rfl) (by kernel_rfl) (by kernel_rfl) (fun _ _ _ h => h) (Or.inl ⟨by kernel_rfl, fun W hW => ?y13⟩) hHeld ?r13
  · go_simp
  refine' wpAnyH_take (i := 15) (v := .pointer (some ⟨q, 0, none⟩)) rfl (by kernel_rfl) (by kernel_rfl) (by kernel_rfl) (fun _ _ _ h => h) (Or.inl ⟨by kernel_rfl, fun W hW => ?y14⟩) hHeld ?r14
  · go_simp
  refine' wpAnyH_take (i := 16) (v := .pointer (some ⟨q, 0, none⟩)) rfl (by kernel_rfl) (by kernel_rfl) (by kernel_rfl) (fun _ _ _ h => h) (Or.inl ⟨by kernel_rfl, fun W hW => ?y15⟩) hHeld ?r15
  · go_simp
  refine' wpAnyH_take (i := 17) (v := .pointer (some ⟨q, 2, none⟩)) rfl (by kernel_rfl) (by kernel_rfl) (by kernel_rfl) (fun _ _ _ h => h) (Or.inl ⟨by kernel_rfl, fun W hW => ?y16⟩) hHeld ?r16
  · go_simp
  refine' wpAnyH_take (i := 18) (v := .int .i64 e0) rfl (by kernel_rfl) (by kernel_rfl) (by kernel_rfl) (fun _ _ _ h => h) (Or.inl ⟨by kernel_rfl, fun W hW => ?y17⟩) hHeld ?r17
  · obtain ⟨x1, x2⟩ := Hc.out W hW
    go_simp
  refine wpAnyH_ready (rs := [14]) (by kernel_rfl) (by simp) ?_
  refine AllReadyH.cons rfl (fun K hK => ?_) AllReadyH.nil
  go_simp
  refine (N15 _ _).mono ?_
  rintro e w5 ⟨rfl, rfl⟩
  refine hK.out _ _ (by first | exact hHeld | exact (Turn.refl no w).drewN _) (fun hHeld => ?_)
  clear hK
  refine' wpAnyH_take (i := 19) (v := .bool true) rfl (by kernel_rfl) (by kernel_rfl) (by kernel_rfl) (fun _ _ _ h => h) (Or.inl ⟨by kernel_rfl, fun W hW => ?y18⟩) hHeld ?r18
  · go_simp
  refine' wpAnyH_take (i := 20) (v := .bool true) rfl (by kernel_rfl) (by kernel_rfl) (by kernel_rfl) (fun _ _ _ h => h) (Or.inl ⟨by kernel_rfl, fun W hW => ?y19⟩) hHeld ?r19
  · go_simp
  refine' wpAnyH_take (i := 21) (v := .bool true) rfl (by kernel_rfl) (by kernel_rfl) (by kernel_rfl) (fun _ _ _ h => h) (Or.inl ⟨by kernel_rfl, fun W hW => ?y20⟩) hHeld ?r20
  · go_simp
  refine' wpAnyH_take (i := 22) (v := .int .i64 r) rfl (by kernel_rfl) (by kernel_rfl) (by kernel_rfl) (fun _ _ _ h => h) (Or.inl ⟨by kernel_rfl, fun W hW => ?y21⟩) hHeld ?r21
  · go_simp
  refine' wpAnyH_take (i := 24) (v := .pointer (some ⟨q, 0, none⟩)) rfl (by kernel_rfl) (by kernel_rfl) (by kernel_rfl) (fun _ _ _ h => h) (Or.inl ⟨by kernel_rfl, fun W hW => ?y22⟩) hHeld ?r22
  · go_simp
  refine wpAnyH_ready (rs := [23]) (by kernel_rfl) (by simp) ?_
  refine AllReadyH.cons rfl (fun K hK => ?_) AllReadyH.nil
  go_simp
  refine (N15 _ _).mono ?_
  rintro e w5 ⟨rfl, rfl⟩
  refine hK.out _ _ (by first | exact hHeld | exact (Turn.refl no w).drewN _) (fun hHeld => ?_)
  clear hK
  refine wpAnyH_ready (rs := [25]) (by kernel_rfl) (by simp) ?_
  refine AllReadyH.cons rfl (fun K hK => ?_) AllReadyH.nil
  go_simp
  refine (HH.out.2 _ hHeld).mono ?_
  rintro e w6 ⟨rfl, n6, rfl⟩
  refine hK.out _ _ (hHeld.drewN n6) (fun hHeld => ?_)
  clear hK
  refine' wpAnyH_take (i := 26) (v := .bool true) rfl (by kernel_rfl) (by kernel_rfl) (by kernel_rfl) (fun _ _ _ h => h) (Or.inl ⟨by kernel_rfl, fun W hW => ?y23⟩) hHeld ?r23
  · go_simp
  refine' wpAnyH_take (i := 27) (v := .bool true) rfl (by kernel_rfl) (by kernel_rfl) (by kernel_rfl) (fun _ _ _ h => h) (Or.inl ⟨by kernel_rfl, fun W hW => ?y24⟩) hHeld ?r24
  · go_simp
  refine wpAnyH_ready (rs := [28]) (by kernel_rfl) (by simp) ?_
  refine AllReadyH.cons rfl (fun K hK => ?_) AllReadyH.nil
  go_simp
  refine hK.out _ _ (by first | exact hHeld | exact (Turn.refl no w).drewN _) (fun hHeld => ?_)
  clear hK
  refine wpAnyH_done (by kernel_rfl) ?_ _
  go_simp
  go_wp2_with fail
  go_ret
  exact ⟨rfl, hHeld⟩
end Go.Proofs.Ytfjdojodbhmmaaa
