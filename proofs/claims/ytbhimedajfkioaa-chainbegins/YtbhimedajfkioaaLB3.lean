/- rivalsOf. -/
import Derived.Test.YtbhimedajfkioaaGb
namespace Go.Proofs.Ytbhimedajfkioaa
open Go.RowKit
set_option linter.unusedVariables false

def rivB (least : Nat) (m : Ac) : Bool := !m.jail && decide (least ≤ m.bond)
/-- Who may sit. -/
def rivL (least : Nat) (l : List Ac) : List Ac := l.filter (rivB least)
theorem rivL_succ {least : Nat} {l : List Ac} {k : Nat} {m : Ac} (h : l[k]? = some m) : rivL least (l.take (k + 1)) = rivL least (l.take k) ++ (if rivB least m then [m] else []) := by
  obtain ⟨hk, rfl⟩ := List.getElem?_eq_some_iff.1 h
  rw [List.take_succ_eq_append_getElem hk]
  simp only [rivL, List.filter_append, List.filter_cons, List.filter_nil]
theorem rivL_len (least : Nat) (l : List Ac) : (rivL least l).length ≤ l.length := List.length_filter_le _ _
theorem acC_append (l m : List Ac) : acC (l ++ m) = acC l ++ acC m := by simp [acC]
/-- One account in a block of its own. -/
theorem as_one (w : World) (m : Ac) (hm : m.ok) : AsAt (w.alloc (.cells #[.int .u64 m.ad, .int .u64 m.bal, .int .u64 m.bond, .int .u64 m.nonce, .bool m.jail] 58)) (some ⟨w.heap.size, 0, none⟩) 1 [m] :=
  ⟨by simp, by simp [maxLen], fun x hx => by simp at hx; subst hx; exact hm, fun j x hj => by
    cases j with
    | zero =>
      simp at hj
      subst hj
      exact ⟨_, _, rfl, by simp, by simp, by simp, by simp, by simp⟩
    | succ j => simp at hj⟩
set_option maxRecDepth 100000 in
set_option maxHeartbeats 4000000 in
theorem rivals24 (w : World) (v : Value) (l : List Ac) (h : As w v l) (least : Nat) (hl : l.length * 40 ≤ 140737488355328) : Calls Try.prog 60 #[v, .int .u64 least] w fun e w' =>
    ∃ v', e = .returned v' ∧ OwnN w' 58 5 v' (rivL least l).length (acC (rivL least l)) ∧ (∀ g, v'.ownBlock = some g → w.heap.size ≤ g) ∧ Turn no w w' := by
  obtain ⟨a, cap, rfl, h⟩ := h
  have HC := shut h.cells
  have HOK := shut h.ok
  have hle : l.length ≤ 9223372036854775807 := by have := h.le; have := h.cap; simp only [maxLen] at this; omega
  have HL := shut hl
  clear h hl
  obtain ⟨n, hn⟩ : ∃ n, Hid (l.length = n) := ⟨_, rfl⟩
  have hn' : l.length = n := hn.out
  rw [hn'] at hle ⊢
  clear hn'
  go_enter Try.func60, Try.ntmps60
  go_wp2_with fail
  go_loopw [5, 10] (fun r c wr => ∃ k : Nat, k ≤ n ∧ c = .int .i64 k ∧ (∃ ra rn rc, r = .slice ra rn rc) ∧ Shut (OwnN wr 58 5 r (rivL least (l.take k)).length (acC (rivL least (l.take k))) ∧ (∀ g, r.ownBlock = some g → w.heap.size ≤ g) ∧ Turn no w wr)) (fun _ c _ => n - (intOf c).toNat)
  case atStart => exact ⟨0, by omega, rfl, ⟨_, _, _, rfl⟩, OwnN.nil w 58 5, (fun g hg => by cases hg), Turn.refl _ _⟩
  case round =>
    obtain ⟨k, hk, rfl, ⟨ra, rn, rc, rfl⟩, HI⟩ := hrel
    by_cases hlt : k < n
    · obtain ⟨m, hm⟩ : ∃ m, l[k]? = some m := ⟨l[k]'(by rw [hn.out]; exact hlt), List.getElem?_eq_getElem _⟩
      obtain ⟨b, off, rfl, c0, c1, c2, c3, c4⟩ := HC.out k m hm
      have T := HI.out.2.2
      have c0 := T.keep c0 (fun q => q)
      have c1 := T.keep c1 (fun q => q)
      have c2 := T.keep c2 (fun q => q)
      have c3 := T.keep c3 (fun q => q)
      have c4 := T.keep c4 (fun q => q)
      have hlt' : (k : Int) < (n : Int) := by omega
      have hk1 : Hid (k + 1 ≤ n) := hlt
      have HS := shut (rivL_succ (least := least) hm)
      have hmok : m.ok := HOK.out m (List.mem_of_getElem? hm)
      have HOM := shut hmok
      clear hm hmok T
      by_cases hp : rivB least m = true
      · have hj : m.jail = false := by
          unfold rivB at hp
          cases hq : m.jail
          · rfl
          · rw [hq] at hp; simp at hp
        have hb : least ≤ m.bond := by
          unfold rivB at hp
          rw [hj] at hp
          simpa using hp
        have hb' : (least : Int) ≤ (m.bond : Int) := by omega
        have hSS : Shut (rivL least (l.take (k + 1)) = rivL least (l.take k) ++ [m]) := by
          have := HS.out
          rw [if_pos hp] at this
          exact this
        clear HS hp hb
        have hsrc : ∀ W : World, Src Try.prog 5 52 (.slice (some ⟨W.heap.size, 0, none⟩) 1 1) 1 (acC [m]) (W.alloc (.cells #[.int .u64 m.ad, .int .u64 m.bal, .int .u64 m.bond, .int .u64 m.nonce, .bool m.jail] 58)) := fun W => (as_one W m HOM.out).src
        have hs1 := hsrc (wr.alloc (.cells #[.int .u64 m.ad, .int .u64 m.bal, .int .u64 m.bond, .int .u64 m.nonce, .bool m.jail] 58))
        rw [show (wr.alloc (.cells #[.int .u64 m.ad, .int .u64 m.bal, .int .u64 m.bond, .int .u64 m.nonce, .bool m.jail] 58)).heap.size = wr.heap.size + 1 by simp] at hs1
        have t2 : Turn no wr ((wr.alloc (.cells #[.int .u64 m.ad, .int .u64 m.bal, .int .u64 m.bond, .int .u64 m.nonce, .bool m.jail] 58)).alloc (.cells #[.int .u64 m.ad, .int .u64 m.bal, .int .u64 m.bond, .int .u64 m.nonce, .bool m.jail] 58)) := ((Turn.refl no wr).alloc _).alloc _
        have ho1 := HI.out.1.turn_no t2
        have hlen : (rivL least (l.take k)).length ≤ k := by
          have := rivL_len least (l.take k)
          rw [List.length_take] at this
          omega
        have hbig : ((rivL least (l.take k)).length + 1) * 40 ≤ 140737488355328 := by
          have := HL.out
          have := hn.out
          have := hk1.out
          omega
        have hmx : (rivL least (l.take k)).length + 1 ≤ maxLen := by simp only [maxLen]; omega
        rw [hj] at hs1 ho1 t2
        have HT2 := shut t2
        clear hsrc t2 hlen HC HOK
        generalize hxs : acC (rivL least (l.take k)) = xs at *
        have HXS := shut hxs
        clear hxs
        generalize hqq : (rivL least (l.take k)).length = q at *
        have HQ := shut hqq
        clear hqq
        go_wp2_with (at_builtin; refine wpList_append_srcN rfl _ _ rfl Try.underlying52 info39 rfl (by omega) (.slice ra rn rc) q xs rfl ho1 _ 1 (acC [m]) rfl hs1 hbig hmx ?_; intro v2 w2 O2 G2)
        obtain ⟨a2, cap2, e2, _⟩ := O2.form
        refine ⟨⟨k + 1, hk1.out, by go_num, ⟨_, _, _, e2⟩, ?_, G2.fresh HI.out.2.1 ?_, (HI.out.2.2.then_no HT2.out).fresh G2 HI.out.2.1⟩, ?_⟩
        · rw [hSS.out, List.length_append, acC_append, HXS.out, HQ.out]
          exact O2
        · have h1 := HI.out.2.2.size
          have h2 := HT2.out.size
          omega
        · have := hk1.out
          simp [intOf]
          omega
      · have hpf : rivB least m = false := by
          cases hq : rivB least m
          · rfl
          · exact absurd hq hp
        have hSS : Shut (rivL least (l.take (k + 1)) = rivL least (l.take k)) := by
          have := HS.out
          rw [if_neg hp, List.append_nil] at this
          exact this
        have HN : Shut (∀ W, Turn no wr W → OwnN W 58 5 (.slice ra rn rc) (rivL least (l.take (k + 1))).length (acC (rivL least (l.take (k + 1)))) ∧ (∀ g, (Value.slice ra rn rc).ownBlock = some g → w.heap.size ≤ g) ∧ Turn no w W) := fun W t => by
          rw [hSS.out]
          exact ⟨HI.out.1.turn_no t, HI.out.2.1, HI.out.2.2.then_no t⟩
        clear HS hp HC HOK
        cases hj : m.jail
        · have hb : ¬ least ≤ m.bond := fun q => by
            unfold rivB at hpf
            rw [hj] at hpf
            simp at hpf
            omega
          have hb' : (m.bond : Int) < (least : Int) := by omega
          have hb2 : ¬ (least : Int) ≤ (m.bond : Int) := by omega
          rw [hj] at c4
          clear hpf
          go_wp2_with fail
          refine ⟨⟨k + 1, hk1.out, by go_num, ⟨_, _, _, rfl⟩, HN.out _ ((Turn.refl no wr).alloc _)⟩, ?_⟩
          have := hk1.out
          simp [intOf]
          omega
        · rw [hj] at c4
          clear hpf
          go_wp2_with fail
          refine ⟨⟨k + 1, hk1.out, by go_num, ⟨_, _, _, rfl⟩, HN.out _ ((Turn.refl no wr).alloc _)⟩, ?_⟩
          have := hk1.out
          simp [intOf]
          omega
    · have hlt' : ¬ (k : Int) < (n : Int) := by omega
      have hkn : k = n := by omega
      subst hkn
      have HF : Shut (l.take k = l) := List.take_of_length_le (by rw [hn.out]; exact Nat.le_refl _)
      go_wp2_with fail
      go_ret
      have h := HI.out
      rw [HF.out] at h
      exact ⟨_, rfl, h⟩
end Go.Proofs.Ytbhimedajfkioaa
