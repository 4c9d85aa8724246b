/- Texts in one. -/
import Derived.Test.YtaoigopjfelgpaaGreatDoorCm
import Derived.Test.YtaoigopjfelgpaaGreatDoorLa
import Derived.Shelf.SlSortCmp.WholeK
import Derived.Ground.SlsfProg
import Derived.Shelf.SlSorted.Search
import Derived.Ground.SlsoProg
import Derived.Test.YtaoigopjfelgpaaGreatDoorProg
import Derived.Deep.RegionHeld3
import Derived.Sort.Grow
import Derived.Maps.OwnSet
import Derived.Laws.Rows
/- rivalsOf. -/
namespace Go.Proofs.YtaoigopjfelgpaaGreatDoor
open Go.RowKit
set_option linter.unusedVariables false

def rivB (least : Nat) (m : Ac) : Bool := !m.jail && decide (least ≤ m.bond)
/-- Who may sit. -/
def rivL (least : Nat) (l : List Ac) : List Ac := l.filter (rivB least)
theorem rivL_succ {least : Nat} {l : List Ac} {k : Nat} {m : Ac} (h : l[k]? = some m) : rivL least (l.take (k + 1)) = rivL least (l.take k) ++ (if rivB least m then [m] else []) := by
  obtain ⟨hk, rfl⟩ := List.getElem?_eq_some_iff.1 h
  rw [List.take_succ_eq_append_getElem hk]
  simp only [rivL, List.filter_append, List.filter_cons, List.filter_nil]
theorem rivL_len (least : Nat) (l : List Ac) : (rivL least l).length ≤ l.length := List.length_filter_le _ _
theorem acC_append (l m : List Ac) : acC (l ++ m) = acC l ++ acC m := by simp [acC]
/-- One account in a block of its own. -/
theorem as_one (w : World) (m : Ac) (hm : m.ok) : AsAt (w.alloc (.cells #[.int .u64 m.ad, .int .u64 m.bal, .int .u64 m.bond, .int .u64 m.nonce, .bool m.jail] 50)) (some ⟨w.heap.size, 0, none⟩) 1 [m] :=
  ⟨by simp, by simp [maxLen], fun x hx => by simp at hx; subst hx; exact hm, fun j x hj => by
    cases j with
    | zero =>
      simp at hj
      subst hj
      exact ⟨_, _, rfl, by simp, by simp, by simp, by simp, by simp⟩
    | succ j => simp at hj⟩
set_option maxRecDepth 100000 in
set_option maxHeartbeats 4000000 in
theorem rivals24 (w : World) (v : Value) (l : List Ac) (h : As w v l) (least : Nat) (hl : l.length * 40 ≤ 140737488355328) : Calls Tryz.prog 39 #[v, .int .u64 least] w fun e w' =>
    ∃ v', e = .returned v' ∧ OwnN w' 50 5 v' (rivL least l).length (acC (rivL least l)) ∧ (∀ g, v'.ownBlock = some g → w.heap.size ≤ g) ∧ Turn no w w' := by
  obtain ⟨a, cap, rfl, h⟩ := h
  have HC := shut h.cells
  have HOK := shut h.ok
  have hle : l.length ≤ 9223372036854775807 := by have := h.le; have := h.cap; simp only [maxLen] at this; omega
  have HL := shut hl
  clear h hl
  obtain ⟨n, hn⟩ : ∃ n, Hid (l.length = n) := ⟨_, rfl⟩
  have hn' : l.length = n := hn.out
  rw [hn'] at hle ⊢
  clear hn'
  go_enter Tryz.func39, Tryz.ntmps39
  go_wp2_with fail
  go_loopw [5, 10] (fun r c wr => ∃ k : Nat, k ≤ n ∧ c = .int .i64 k ∧ (∃ ra rn rc, r = .slice ra rn rc) ∧ Shut (OwnN wr 50 5 r (rivL least (l.take k)).length (acC (rivL least (l.take k))) ∧ (∀ g, r.ownBlock = some g → w.heap.size ≤ g) ∧ Turn no w wr)) (fun _ c _ => n - (intOf c).toNat)
  case atStart => exact ⟨0, by omega, rfl, ⟨_, _, _, rfl⟩, OwnN.nil w 50 5, (fun g hg => by cases hg), Turn.refl _ _⟩
  case round =>
    obtain ⟨k, hk, rfl, ⟨ra, rn, rc, rfl⟩, HI⟩ := hrel
    by_cases hlt : k < n
    · obtain ⟨m, hm⟩ : ∃ m, l[k]? = some m := ⟨l[k]'(by rw [hn.out]; exact hlt), List.getElem?_eq_getElem _⟩
      obtain ⟨b, off, rfl, c0, c1, c2, c3, c4⟩ := HC.out k m hm
      have T := HI.out.2.2
      have c0 := T.keep c0 (fun q => q)
      have c1 := T.keep c1 (fun q => q)
      have c2 := T.keep c2 (fun q => q)
      have c3 := T.keep c3 (fun q => q)
      have c4 := T.keep c4 (fun q => q)
      have hlt' : (k : Int) < (n : Int) := by omega
      have hk1 : Hid (k + 1 ≤ n) := hlt
      have HS := shut (rivL_succ (least := least) hm)
      have hmok : m.ok := HOK.out m (List.mem_of_getElem? hm)
      have HOM := shut hmok
      clear hm hmok T
      by_cases hp : rivB least m = true
      · have hj : m.jail = false := by
          unfold rivB at hp
          cases hq : m.jail
          · rfl
          · rw [hq] at hp; simp at hp
        have hb : least ≤ m.bond := by
          unfold rivB at hp
          rw [hj] at hp
          simpa using hp
        have hb' : (least : Int) ≤ (m.bond : Int) := by omega
        have hSS : Shut (rivL least (l.take (k + 1)) = rivL least (l.take k) ++ [m]) := by
          have := HS.out
          rw [if_pos hp] at this
          exact this
        clear HS hp hb
        have hsrc : ∀ W : World, Src Tryz.prog 5 22 (.slice (some ⟨W.heap.size, 0, none⟩) 1 1) 1 (acC [m]) (W.alloc (.cells #[.int .u64 m.ad, .int .u64 m.bal, .int .u64 m.bond, .int .u64 m.nonce, .bool m.jail] 50)) := fun W => (as_one W m HOM.out).src
        have hs1 := hsrc (wr.alloc (.cells #[.int .u64 m.ad, .int .u64 m.bal, .int .u64 m.bond, .int .u64 m.nonce, .bool m.jail] 50))
        rw [show (wr.alloc (.cells #[.int .u64 m.ad, .int .u64 m.bal, .int .u64 m.bond, .int .u64 m.nonce, .bool m.jail] 50)).heap.size = wr.heap.size + 1 by simp] at hs1
        have t2 : Turn no wr ((wr.alloc (.cells #[.int .u64 m.ad, .int .u64 m.bal, .int .u64 m.bond, .int .u64 m.nonce, .bool m.jail] 50)).alloc (.cells #[.int .u64 m.ad, .int .u64 m.bal, .int .u64 m.bond, .int .u64 m.nonce, .bool m.jail] 50)) := ((Turn.refl no wr).alloc _).alloc _
        have ho1 := HI.out.1.turn_no t2
        have hlen : (rivL least (l.take k)).length ≤ k := by
          have := rivL_len least (l.take k)
          rw [List.length_take] at this
          omega
        have hbig : ((rivL least (l.take k)).length + 1) * 40 ≤ 140737488355328 := by
          have := HL.out
          have := hn.out
          have := hk1.out
          omega
        have hmx : (rivL least (l.take k)).length + 1 ≤ maxLen := by simp only [maxLen]; omega
        rw [hj] at hs1 ho1 t2
        have HT2 := shut t2
        clear hsrc t2 hlen HC HOK
        generalize hxs : acC (rivL least (l.take k)) = xs at *
        have HXS := shut hxs
        clear hxs
        generalize hqq : (rivL least (l.take k)).length = q at *
        have HQ := shut hqq
        clear hqq
        go_wp2_with (at_builtin; refine wpList_append_srcN rfl _ _ rfl Tryz.underlying22 info39 rfl (by omega) (.slice ra rn rc) q xs rfl ho1 _ 1 (acC [m]) rfl hs1 hbig hmx ?_; intro v2 w2 O2 G2)
        obtain ⟨a2, cap2, e2, _⟩ := O2.form
        refine ⟨⟨k + 1, hk1.out, by go_num, ⟨_, _, _, e2⟩, ?_, G2.fresh HI.out.2.1 ?_, (HI.out.2.2.then_no HT2.out).fresh G2 HI.out.2.1⟩, ?_⟩
        · rw [hSS.out, List.length_append, acC_append, HXS.out, HQ.out]
          exact O2
        · have h1 := HI.out.2.2.size
          have h2 := HT2.out.size
          omega
        · have := hk1.out
          simp [intOf]
          omega
      · have hpf : rivB least m = false := by
          cases hq : rivB least m
          · rfl
          · exact absurd hq hp
        have hSS : Shut (rivL least (l.take (k + 1)) = rivL least (l.take k)) := by
          have := HS.out
          rw [if_neg hp, List.append_nil] at this
          exact this
        have HN : Shut (∀ W, Turn no wr W → OwnN W 50 5 (.slice ra rn rc) (rivL least (l.take (k + 1))).length (acC (rivL least (l.take (k + 1)))) ∧ (∀ g, (Value.slice ra rn rc).ownBlock = some g → w.heap.size ≤ g) ∧ Turn no w W) := fun W t => by
          rw [hSS.out]
          exact ⟨HI.out.1.turn_no t, HI.out.2.1, HI.out.2.2.then_no t⟩
        clear HS hp HC HOK
        cases hj : m.jail
        · have hb : ¬ least ≤ m.bond := fun q => by
            unfold rivB at hpf
            rw [hj] at hpf
            simp at hpf
            omega
          have hb' : (m.bond : Int) < (least : Int) := by omega
          have hb2 : ¬ (least : Int) ≤ (m.bond : Int) := by omega
          rw [hj] at c4
          clear hpf
          go_wp2_with fail
          refine ⟨⟨k + 1, hk1.out, by go_num, ⟨_, _, _, rfl⟩, HN.out _ ((Turn.refl no wr).alloc _)⟩, ?_⟩
          have := hk1.out
          simp [intOf]
          omega
        · rw [hj] at c4
          clear hpf
          go_wp2_with fail
          refine ⟨⟨k + 1, hk1.out, by go_num, ⟨_, _, _, rfl⟩, HN.out _ ((Turn.refl no wr).alloc _)⟩, ?_⟩
          have := hk1.out
          simp [intOf]
          omega
    · have hlt' : ¬ (k : Int) < (n : Int) := by omega
      have hkn : k = n := by omega
      subst hkn
      have HF : Shut (l.take k = l) := List.take_of_length_le (by rw [hn.out]; exact Nat.le_refl _)
      go_wp2_with fail
      go_ret
      have h := HI.out
      rw [HF.out] at h
      exact ⟨_, rfl, h⟩
end Go.Proofs.YtaoigopjfelgpaaGreatDoor


/- What the library says of its own functions, at this program's numbers, in plain words. -/
namespace Go.Proofs
open Go.Shelf
def YtaoigopjfelgpaaGreatDoor.sortAc_ren : Go.Shelf.Ren := ⟨fun | 6 => 40 | 15 => 60 | 14 => 59 | 28 => 86 | 29 => 87 | 20 => 78 | 21 => 79 | 22 => 80 | 23 => 81 | 24 => 82 | 25 => 83 | 26 => 84 | 27 => 85 | 46 => 103 | 47 => 104 | 48 => 105 | 49 => 106 | 50 => 107 | 57 => 116 | n => n, fun | 22 => 22 | 24 => 50 | 25 => 83 | 3 => 3 | 39 => 103 | 0 => 0 | 53 => 118 | 55 => 23 | 4 => 4 | 46 => 125 | 45 => 124 | 50 => 69 | 5 => 5 | 9 => 9 | 66 => 147 | 70 => 151 | 76 => 161 | 77 => 162 | n => n, fun | n => n⟩
theorem YtaoigopjfelgpaaGreatDoor.sortAc : Go.Proofs.SlLaysF0.n6 Tryz.prog YtaoigopjfelgpaaGreatDoor.sortAc_ren := {
  mixed := by kernel_rfl
  f6 := ⟨Tryz.f40.name, by decide, Tryz.func40.trans (congrArg some (by kernel_rfl))⟩
  f14 := ⟨Tryz.f59.name, by decide, Tryz.func59.trans (congrArg some (by kernel_rfl))⟩
  f15 := Tryz.func60.trans (congrArg some (by kernel_rfl))
  f20 := ⟨Tryz.f78.name, by decide, Tryz.func78.trans (congrArg some (by kernel_rfl))⟩
  f21 := ⟨Tryz.f79.name, by decide, Tryz.func79.trans (congrArg some (by kernel_rfl))⟩
  f22 := ⟨Tryz.f80.name, by decide, Tryz.func80.trans (congrArg some (by kernel_rfl))⟩
  f23 := ⟨Tryz.f81.name, by decide, Tryz.func81.trans (congrArg some (by kernel_rfl))⟩
  f24 := ⟨Tryz.f82.name, by decide, Tryz.func82.trans (congrArg some (by kernel_rfl))⟩
  f25 := ⟨Tryz.f83.name, by decide, Tryz.func83.trans (congrArg some (by kernel_rfl))⟩
  f26 := ⟨Tryz.f84.name, by decide, Tryz.func84.trans (congrArg some (by kernel_rfl))⟩
  f27 := ⟨Tryz.f85.name, by decide, Tryz.func85.trans (congrArg some (by kernel_rfl))⟩
  f28 := Tryz.func86.trans (congrArg some (by kernel_rfl))
  f29 := Tryz.func87.trans (congrArg some (by kernel_rfl))
  f46 := ⟨Tryz.f103.name, by decide, Tryz.func103.trans (congrArg some (by kernel_rfl))⟩
  f47 := Tryz.func104.trans (congrArg some (by kernel_rfl))
  f48 := Tryz.func105.trans (congrArg some (by kernel_rfl))
  f49 := ⟨Tryz.f106.name, by decide, Tryz.func106.trans (congrArg some (by kernel_rfl))⟩
  f50 := ⟨Tryz.f107.name, by decide, Tryz.func107.trans (congrArg some (by kernel_rfl))⟩
  f57 := ⟨Tryz.f116.name, by decide, Tryz.func116.trans (congrArg some (by kernel_rfl))⟩
  t0 := Tryz.underlying0
  a0 := Tryz.isAgg0
  z0 := Tryz.sizeOf0
  v0 := Tryz.zeroValue0
  t3 := Tryz.underlying3
  a3 := Tryz.isAgg3
  z3 := Tryz.sizeOf3
  v3 := Tryz.zeroValue3
  t4 := Tryz.underlying4
  a4 := Tryz.isAgg4
  z4 := Tryz.sizeOf4
  v4 := Tryz.zeroValue4
  t5 := Tryz.underlying5
  a5 := Tryz.isAgg5
  z5 := Tryz.sizeOf5
  v5 := Tryz.zeroValue5
  t9 := Tryz.underlying9
  a9 := Tryz.isAgg9
  z9 := Tryz.sizeOf9
  v9 := Tryz.zeroValue9
  t22 := Tryz.underlying22
  a22 := Tryz.isAgg22
  z22 := Tryz.sizeOf22
  v22 := Tryz.zeroValue22
  t25 := Tryz.underlying83
  a25 := Tryz.isAgg83
  z25 := Tryz.sizeOf83
  v25 := Tryz.zeroValue83
  t39 := Tryz.underlying103
  a39 := Tryz.isAgg103
  z39 := Tryz.sizeOf103
  v39 := Tryz.zeroValue103
  t45 := Tryz.underlying124
  a45 := Tryz.isAgg124
  z45 := Tryz.sizeOf124
  v45 := Tryz.zeroValue124
  t46 := Tryz.underlying125
  a46 := Tryz.isAgg125
  z46 := Tryz.sizeOf125
  v46 := Tryz.zeroValue125
  t50 := Tryz.underlying69
  a50 := Tryz.isAgg69
  z50 := Tryz.sizeOf69
  v50 := Tryz.zeroValue69
  t53 := Tryz.underlying118
  a53 := Tryz.isAgg118
  z53 := Tryz.sizeOf118
  v53 := Tryz.zeroValue118
  t55 := Tryz.underlying23
  a55 := Tryz.isAgg23
  z55 := Tryz.sizeOf23
  v55 := Tryz.zeroValue23
  t66 := Tryz.underlying147
  a66 := Tryz.isAgg147
  z66 := Tryz.sizeOf147
  v66 := Tryz.zeroValue147
  t70 := Tryz.underlying151
  a70 := Tryz.isAgg151
  z70 := Tryz.sizeOf151
  v70 := Tryz.zeroValue151
  t76 := Tryz.underlying161
  a76 := Tryz.isAgg161
  z76 := Tryz.sizeOf161
  v76 := Tryz.zeroValue161
  t77 := Tryz.underlying162
  a77 := Tryz.isAgg162
  z77 := Tryz.sizeOf162
  v77 := Tryz.zeroValue162 }
def YtaoigopjfelgpaaGreatDoor.searchT_ren : Go.Shelf.Ren := ⟨fun | 16 => 26 | n => n, fun | 3 => 3 | 35 => 68 | 4 => 4 | 38 => 103 | n => n, fun | n => n⟩
theorem YtaoigopjfelgpaaGreatDoor.searchT : Go.Proofs.SlLaysO.n16 Tryz.prog YtaoigopjfelgpaaGreatDoor.searchT_ren := {
  mixed := by kernel_rfl
  f16 := Tryz.func26.trans (congrArg some (by kernel_rfl))
  t3 := Tryz.underlying3
  a3 := Tryz.isAgg3
  z3 := Tryz.sizeOf3
  v3 := Tryz.zeroValue3
  t4 := Tryz.underlying4
  a4 := Tryz.isAgg4
  z4 := Tryz.sizeOf4
  v4 := Tryz.zeroValue4
  t35 := Tryz.underlying68
  a35 := Tryz.isAgg68
  z35 := Tryz.sizeOf68
  v35 := Tryz.zeroValue68
  t38 := Tryz.underlying103
  a38 := Tryz.isAgg103
  z38 := Tryz.sizeOf103
  v38 := Tryz.zeroValue103 }
end Go.Proofs

/- byBond, and a sort by it. -/
namespace Go.Proofs.YtaoigopjfelgpaaGreatDoor
open Go.RowKit
set_option linter.unusedVariables false

/-- Draws on, blocks behind, nothing else. -/
def Gw (w W : World) : Prop := ∃ (q : Nat) (os : Array Obj), W = Go.Sort.grow (w.drewN q) os
theorem Gw.refl (w : World) : Gw w w := ⟨0, #[], by simp [Go.Sort.grow, World.drewN]⟩
theorem Gw.alloc {w W : World} (h : Gw w W) (o : Obj) : Gw w (W.alloc o) := by
  obtain ⟨q, os, rfl⟩ := h
  exact ⟨q, os.push o, by simp [Go.Sort.grow, World.drewN, World.alloc]⟩
theorem Gw.drew {w W : World} (h : Gw w W) : Gw w W.drew := by
  obtain ⟨q, os, rfl⟩ := h
  exact ⟨q + 1, os, by simp [Go.Sort.grow, World.drewN, World.drew, Nat.add_assoc]⟩
theorem Gw.turn {w W : World} (h : Gw w W) : Turn no w W := by
  obtain ⟨q, os, rfl⟩ := h
  exact ⟨rfl, rfl, rfl, by simp [Go.Sort.grow, World.drewN], fun k hk _ => by simp [Go.Sort.grow, World.drewN, Array.getElem?_append, hk]⟩
def cN (a b : Nat) : Int := if a < b then -1 else if b < a then 1 else 0
set_option maxRecDepth 100000 in
theorem nan52 (w : World) (a : Nat) : Calls Tryz.prog 88 #[.int .u64 a] w fun e w' => e = .returned (.bool false) ∧ w' = w := by
  have h : ((a : Int) != (a : Int)) = false := by simp
  go_enter Tryz.func88, Tryz.ntmps88
  go_wp2_with fail
  go_ret
  exact ⟨rfl, rfl⟩
set_option maxRecDepth 100000 in
theorem nan53 (w : World) (a : Nat) : Calls Tryz.prog 89 #[.int .u64 a] w fun e w' => e = .returned (.bool false) ∧ w' = w := by
  have h : ((a : Int) != (a : Int)) = false := by simp
  go_enter Tryz.func89, Tryz.ntmps89
  go_wp2_with fail
  go_ret
  exact ⟨rfl, rfl⟩
set_option maxRecDepth 100000 in
theorem cmp37 (w : World) (a b : Nat) : Calls Tryz.prog 62 #[.int .u64 a, .int .u64 b] w fun e w' => e = .returned (.int .i64 (cN a b)) ∧ w' = w := by
  rcases Nat.lt_trichotomy a b with h | h | h
  · have e : cN a b = -1 := if_pos h
    have HE := shut' e
    have h1 : (a : Int) < (b : Int) := by omega
    clear e h
    go_enter Tryz.func62, Tryz.ntmps62
    go_wp2_with (go_at_call 88; refine (nan52 _ _).mono ?_; rintro e w' ⟨rfl, rfl⟩)
    go_ret
    exact ⟨by rw [HE.out]; rfl, rfl⟩
  · subst h
    have e : cN a a = 0 := by simp [cN]
    have HE := shut' e
    have h1 : ¬ (a : Int) < (a : Int) := by omega
    clear e
    go_enter Tryz.func62, Tryz.ntmps62
    go_wp2_with (go_at_call 88; refine (nan52 _ _).mono ?_; rintro e w' ⟨rfl, rfl⟩)
    go_ret
    exact ⟨by rw [HE.out]; rfl, rfl⟩
  · have e : cN a b = 1 := by unfold cN; rw [if_neg (by omega), if_pos h]
    have HE := shut' e
    have h1 : ¬ (a : Int) < (b : Int) := by omega
    have h2 : (b : Int) < (a : Int) := by omega
    clear e h
    go_enter Tryz.func62, Tryz.ntmps62
    go_wp2_with (go_at_call 88; refine (nan52 _ _).mono ?_; rintro e w' ⟨rfl, rfl⟩)
    go_ret
    exact ⟨by rw [HE.out]; rfl, rfl⟩
set_option maxRecDepth 100000 in
theorem cmp38 (w : World) (a b : Nat) : Calls Tryz.prog 63 #[.int .u64 a, .int .u64 b] w fun e w' => e = .returned (.int .i64 (cN a b)) ∧ w' = w := by
  rcases Nat.lt_trichotomy a b with h | h | h
  · have e : cN a b = -1 := if_pos h
    have HE := shut' e
    have h1 : (a : Int) < (b : Int) := by omega
    clear e h
    go_enter Tryz.func63, Tryz.ntmps63
    go_wp2_with (go_at_call 89; refine (nan53 _ _).mono ?_; rintro e w' ⟨rfl, rfl⟩)
    go_ret
    exact ⟨by rw [HE.out]; rfl, rfl⟩
  · subst h
    have e : cN a a = 0 := by simp [cN]
    have HE := shut' e
    have h1 : ¬ (a : Int) < (a : Int) := by omega
    clear e
    go_enter Tryz.func63, Tryz.ntmps63
    go_wp2_with (go_at_call 89; refine (nan53 _ _).mono ?_; rintro e w' ⟨rfl, rfl⟩)
    go_ret
    exact ⟨by rw [HE.out]; rfl, rfl⟩
  · have e : cN a b = 1 := by unfold cN; rw [if_neg (by omega), if_pos h]
    have HE := shut' e
    have h1 : ¬ (a : Int) < (b : Int) := by omega
    have h2 : (b : Int) < (a : Int) := by omega
    clear e h
    go_enter Tryz.func63, Tryz.ntmps63
    go_wp2_with (go_at_call 89; refine (nan53 _ _).mono ?_; rintro e w' ⟨rfl, rfl⟩)
    go_ret
    exact ⟨by rw [HE.out]; rfl, rfl⟩
def orN (a b : Int) : Int := if a = 0 then b else a
set_option maxRecDepth 100000 in
set_option maxHeartbeats 1000000 in
theorem or36 (w : World) (g : Nat) (a b : Int) (h0 : w.cell? ⟨g, 0, none⟩ = some (.int .i64 a)) (h1 : w.cell? ⟨g, 1, none⟩ = some (.int .i64 b)) : Calls Tryz.prog 61 #[.slice (some ⟨g, 0, none⟩) 2 2] w fun e w' => e = .returned (.int .i64 (orN a b)) ∧ w' = w := by
  go_enter Tryz.func61, Tryz.ntmps61
  go_wp2_with fail
  go_loopw [8] (fun c wr => wr = w ∧ (c = .int .i64 0 ∨ (c = .int .i64 1 ∧ a = 0) ∨ (c = .int .i64 2 ∧ a = 0 ∧ b = 0))) (fun c _ => 2 - (intOf c).toNat)
  case atStart => exact ⟨rfl, .inl rfl⟩
  case round =>
    rcases hrel with ⟨rfl, rfl | ⟨rfl, ha⟩ | ⟨rfl, ha, hb⟩⟩
    · by_cases hz : a = 0
      · have hz' : (a != 0) = false := by simp [hz]
        have HZ := shut' hz
        clear hz
        go_wp2_with fail
        exact ⟨⟨(by trivial), .inr (.inl ⟨rfl, HZ.out⟩)⟩, by simp [intOf]⟩
      · have hz' : (a != 0) = true := by simp [hz]
        have HZ := shut' (show orN a b = a from if_neg hz)
        clear hz
        go_wp2_with fail
        go_ret
        exact ⟨by rw [HZ.out]; rfl, rfl⟩
    · have HA := shut' ha
      have HX := shut' (show orN a b = b from if_pos ha)
      clear ha
      by_cases hz : b = 0
      · have hz' : (b != 0) = false := by simp [hz]
        have HZ := shut' hz
        clear hz
        go_wp2_with fail
        exact ⟨⟨(by trivial), .inr (.inr ⟨rfl, HA.out, HZ.out⟩)⟩, by simp [intOf]⟩
      · have hz' : (b != 0) = true := by simp [hz]
        clear hz
        go_wp2_with fail
        go_ret
        exact ⟨by rw [HX.out]; rfl, rfl⟩
    · have HX := shut' (show orN a b = 0 by simp [orN, ha, hb])
      clear ha hb
      go_wp2_with fail
      go_ret
      exact ⟨by rw [HX.out]; rfl, rfl⟩
/-- The greatest bond first, of equal ones the least address. -/
def bondC (x y : Ac) : Int := orN (cN y.bond x.bond) (cN x.ad y.ad)
def ac5 (m : Ac) : List Value := [.int .u64 m.ad, .int .u64 m.bal, .int .u64 m.bond, .int .u64 m.nonce, .bool m.jail]
set_option maxRecDepth 100000 in
set_option maxHeartbeats 4000000 in
theorem bond26 (w : World) (x y : Ac) : Calls Tryz.prog 41 #[.agg #[.int .u64 x.ad, .int .u64 x.bal, .int .u64 x.bond, .int .u64 x.nonce, .bool x.jail], .agg #[.int .u64 y.ad, .int .u64 y.bal, .int .u64 y.bond, .int .u64 y.nonce, .bool y.jail]] w fun e w' => e = .returned (.int .i64 (bondC x y)) ∧ Gw w w' := by
  obtain ⟨w1, hw1⟩ : ∃ w1, w.alloc (.cells #[.int .u64 x.ad, .int .u64 x.bal, .int .u64 x.bond, .int .u64 x.nonce, .bool x.jail] 50) = w1 := ⟨_, rfl⟩
  have s1 : w1.heap.size = w.heap.size + 1 := by rw [← hw1]; simp
  obtain ⟨w2, hw2⟩ : ∃ w2, w1.alloc (.cells #[.int .u64 y.ad, .int .u64 y.bal, .int .u64 y.bond, .int .u64 y.nonce, .bool y.jail] 50) = w2 := ⟨_, rfl⟩
  have G2 : Gw w w2 := by rw [← hw2, ← hw1]; exact ((Gw.refl w).alloc _).alloc _
  have R1 : w2.heap[w.heap.size]? = some (.cells #[.int .u64 x.ad, .int .u64 x.bal, .int .u64 x.bond, .int .u64 x.nonce, .bool x.jail] 50 (0, 0)) := by
    have t : Turn no w1 w2 := by rw [← hw2]; exact (Turn.refl no w1).alloc _
    exact t.obj (by rw [← hw1]; exact heap_alloc_new w _) (fun q => q)
  have R2 : w2.heap[w.heap.size + 1]? = some (.cells #[.int .u64 y.ad, .int .u64 y.bal, .int .u64 y.bond, .int .u64 y.nonce, .bool y.jail] 50 (0, 0)) := by
    rw [← s1, ← hw2]
    exact heap_alloc_new w1 _
  have D : ∀ W, Gw w2 W → W.cell? ⟨w.heap.size, 0, none⟩ = some (.int .u64 x.ad) ∧ W.cell? ⟨w.heap.size, 2, none⟩ = some (.int .u64 x.bond) ∧ W.cell? ⟨w.heap.size + 1, 0, none⟩ = some (.int .u64 y.ad) ∧ W.cell? ⟨w.heap.size + 1, 2, none⟩ = some (.int .u64 y.bond) := fun W g =>
    ⟨g.turn.keep (cell_of_row _ _ 0 _ 50 (0, 0) R1) (fun q => q), g.turn.keep (cell_of_row _ _ 2 _ 50 (0, 0) R1) (fun q => q), g.turn.keep (cell_of_row _ _ 0 _ 50 (0, 0) R2) (fun q => q), g.turn.keep (cell_of_row _ _ 2 _ 50 (0, 0) R2) (fun q => q)⟩
  have HD := shut' D
  have HG := shut' G2
  have HB : Shut (bondC x y = orN (cN y.bond x.bond) (cN x.ad y.ad)) := rfl
  have c1 := cmp37 w2.drew y.bond x.bond
  have c2 := cmp38 w2.drew x.ad y.ad
  clear D R1 R2 G2
  generalize cN y.bond x.bond = A at *
  generalize cN x.ad y.ad = B at *
  have g0 : Gw w2 w2.drew := (Gw.refl w2).drew
  have R3 : (w2.drew.alloc (.cells #[.int .i64 A, .int .i64 B] 3)).heap[w2.heap.size]? = some (.cells #[.int .i64 A, .int .i64 B] 3 (0, 0)) := heap_alloc_new w2.drew _
  have c3 := or36 (w2.drew.alloc (.cells #[.int .i64 A, .int .i64 B] 3)) w2.heap.size A B (cell_of_row _ _ 0 _ 3 (0, 0) R3) (cell_of_row _ _ 1 _ 3 (0, 0) R3)
  generalize orN A B = C at *
  clear R3
  go_enter Tryz.func41, Tryz.ntmps41
  go_upto_region 1 with fail
  refine wp_region_held_drew (S := fun W => Gw w2 W) (by kernel_rfl) g0 (fun hHeld => ?_)
  refine' wpAnyH_take (i := 0) (v := .pointer (some ⟨w.heap.size + 1, 2, none⟩)) rfl (by kernel_rfl) (by kernel_rfl) (by kernel_rfl) (fun _ _ _ h => h) (Or.inl ⟨by kernel_rfl, fun W hW => ?y1⟩) hHeld ?r1
  · go_simp
  refine' wpAnyH_take (i := 1) (v := .int .u64 y.bond) rfl (by kernel_rfl) (by kernel_rfl) (by kernel_rfl) (fun _ _ _ h => h) (Or.inl ⟨by kernel_rfl, fun W hW => ?y2⟩) hHeld ?r2
  · obtain ⟨z0, z1, z2, z3⟩ := HD.out W hW
    go_simp
  refine' wpAnyH_take (i := 2) (v := .pointer (some ⟨w.heap.size, 2, none⟩)) rfl (by kernel_rfl) (by kernel_rfl) (by kernel_rfl) (fun _ _ _ h => h) (Or.inl ⟨by kernel_rfl, fun W hW => ?y3⟩) hHeld ?r3
  · go_simp
  refine' wpAnyH_take (i := 3) (v := .int .u64 x.bond) rfl (by kernel_rfl) (by kernel_rfl) (by kernel_rfl) (fun _ _ _ h => h) (Or.inl ⟨by kernel_rfl, fun W hW => ?y4⟩) hHeld ?r4
  · obtain ⟨z0, z1, z2, z3⟩ := HD.out W hW
    go_simp
  refine' wpAnyH_take (i := 5) (v := .pointer (some ⟨w.heap.size, 0, none⟩)) rfl (by kernel_rfl) (by kernel_rfl) (by kernel_rfl) (fun _ _ _ h => h) (Or.inl ⟨by kernel_rfl, fun W hW => ?y5⟩) hHeld ?r5
  · go_simp
  refine' wpAnyH_take (i := 6) (v := .int .u64 x.ad) rfl (by kernel_rfl) (by kernel_rfl) (by kernel_rfl) (fun _ _ _ h => h) (Or.inl ⟨by kernel_rfl, fun W hW => ?y6⟩) hHeld ?r6
  · obtain ⟨z0, z1, z2, z3⟩ := HD.out W hW
    go_simp
  refine' wpAnyH_take (i := 7) (v := .pointer (some ⟨w.heap.size + 1, 0, none⟩)) rfl (by kernel_rfl) (by kernel_rfl) (by kernel_rfl) (fun _ _ _ h => h) (Or.inl ⟨by kernel_rfl, fun W hW => ?y7⟩) hHeld ?r7
  · go_simp
  refine' wpAnyH_take (i := 8) (v := .int .u64 y.ad) rfl (by kernel_rfl) (by kernel_rfl) (by kernel_rfl) (fun _ _ _ h => h) (Or.inl ⟨by kernel_rfl, fun W hW => ?y8⟩) hHeld ?r8
  · obtain ⟨z0, z1, z2, z3⟩ := HD.out W hW
    go_simp
  refine wpAnyH_ready (rs := [4]) (by kernel_rfl) (by simp) ?_
  refine AllReadyH.cons rfl (fun K hK => ?_) AllReadyH.nil
  go_simp
  refine c1.mono ?_
  rintro e w' ⟨rfl, rfl⟩
  refine hK.out _ _ g0 (fun hHeld => ?_)
  clear hK
  refine wpAnyH_ready (rs := [9]) (by kernel_rfl) (by simp) ?_
  refine AllReadyH.cons rfl (fun K hK => ?_) AllReadyH.nil
  go_simp
  refine c2.mono ?_
  rintro e w' ⟨rfl, rfl⟩
  refine hK.out _ _ g0 (fun hHeld => ?_)
  clear hK
  refine wpAnyH_ready (rs := [10]) (by kernel_rfl) (by simp) ?_
  refine AllReadyH.cons rfl (fun K hK => ?_) AllReadyH.nil
  go_simp
  refine hK.out _ _ (g0.alloc _) (fun hHeld => ?_)
  clear hK
  refine wpAnyH_ready (rs := [11]) (by kernel_rfl) (by simp) ?_
  refine AllReadyH.cons rfl (fun K hK => ?_) AllReadyH.nil
  go_simp
  refine c3.mono ?_
  rintro e w' ⟨rfl, rfl⟩
  refine hK.out _ _ (g0.alloc _) (fun hHeld => ?_)
  clear hK
  refine' wpAnyH_take (i := 12) (v := .int .i64 C) rfl (by kernel_rfl) (by kernel_rfl) (by kernel_rfl) (fun _ _ _ h => h) (Or.inl ⟨by kernel_rfl, fun W hW => ?y9⟩) hHeld ?r9
  · go_simp
  refine wpAnyH_done (by kernel_rfl) ?_ _
  go_wp2_with fail
  go_ret
  refine ⟨by rw [HB.out]; rfl, ?_⟩
  obtain ⟨q, os, e⟩ := HG.out
  obtain ⟨q2, os2, e2⟩ := g0.alloc (.cells #[.int .i64 A, .int .i64 B] 3)
  exact ⟨q + q2, os ++ os2, by rw [e2, e]; simp [Go.Sort.grow, World.drewN, Nat.add_assoc]⟩
end Go.Proofs.YtaoigopjfelgpaaGreatDoor


/- A sort of accounts by byBond, of whatever length. -/
namespace Go.Proofs.YtaoigopjfelgpaaGreatDoor
open Go.RowKit Go.Shelf Go.Lib Go.Sort
set_option linter.unusedVariables false

set_option maxRecDepth 100000 in
theorem len51_0 (w : World) : Calls Tryz.prog 87 #[.int .u64 0] w fun e w' => e = .returned (.int .i64 0) ∧ w' = w := by
  go_enter Tryz.func87, Tryz.ntmps87
  go_wp2_with fail
  go_ret
  exact ⟨by kernel_rfl, rfl⟩
set_option maxRecDepth 100000 in
theorem len35_0 (w : World) : Calls Tryz.prog 60 #[.int .u64 0] w fun e w' => e = .returned (.int .i64 0) ∧ w' = w := by
  go_enter Tryz.func60, Tryz.ntmps60
  go_wp2_with fail
  refine (len51_0 w).mono ?_
  rintro e w' ⟨rfl, rfl⟩
  go_wp2_with fail
  go_ret
  exact ⟨rfl, rfl⟩
set_option maxRecDepth 100000 in
theorem ins42_0 (w : World) (v f : Value) : Calls Tryz.prog 78 #[v, .int .i64 0, .int .i64 0, f] w fun e w' => e = .returned (.tuple #[]) ∧ w' = w := by
  go_enter Tryz.func78, Tryz.ntmps78
  go_wp2_with fail
  go_loopw [8] (fun x wr => x = .int .i64 1 ∧ wr = w) (fun _ _ => 0)
  case atStart => exact ⟨rfl, rfl⟩
  case round =>
    obtain ⟨rfl, rfl⟩ := hrel
    go_wp2_with fail
    exact ⟨rfl, _, results_none rfl _ _ _, rfl, rfl⟩
set_option maxRecDepth 100000 in
theorem pdq34_0 (w : World) (v f : Value) : Calls Tryz.prog 59 #[v, .int .i64 0, .int .i64 0, .int .i64 0, f] w fun e w' => e = .returned (.tuple #[]) ∧ w' = w := by
  go_enter Tryz.func59, Tryz.ntmps59
  go_wp2_with fail
  go_loopw [1, 2, 3, 10, 11] (fun a b l x y wr => a = .int .i64 0 ∧ b = .int .i64 0 ∧ l = .int .i64 0 ∧ x = .bool true ∧ y = .bool true ∧ wr = w) (fun _ _ _ _ _ _ => 0)
  case atStart => exact ⟨rfl, rfl, rfl, rfl, rfl, rfl⟩
  case round =>
    obtain ⟨rfl, rfl, rfl, rfl, rfl, rfl⟩ := hrel
    go_wp2_with fail
    refine (ins42_0 _ _ _).mono ?_
    rintro e w' ⟨rfl, rfl⟩
    go_wp2_with fail
    exact ⟨rfl, _, results_none rfl _ _ _, rfl, rfl⟩
set_option maxRecDepth 100000 in
theorem sort25_0 (w : World) (a : Option Addr) (cap : Nat) (f : Value) : Calls Tryz.prog 40 #[.slice a 0 cap, f] w fun e w' => e = .returned (.tuple #[]) ∧ w' = w := by
  go_enter Tryz.func40, Tryz.ntmps40
  go_wp2_with fail
  refine (len35_0 w).mono ?_
  rintro e w' ⟨rfl, rfl⟩
  go_wp2_with fail
  refine (pdq34_0 _ _ _).mono ?_
  rintro e w' ⟨rfl, rfl⟩
  go_wp2_with fail
  exact ⟨rfl, _, results_none rfl _ _ _, rfl, rfl⟩


def acZ : Ac := ⟨0, 0, 0, 0, false⟩
def bondL (x y : Ac) : Bool := decide (y.bond < x.bond ∨ (x.bond = y.bond ∧ x.ad < y.ad))
theorem ltBond (x y : Ac) : ltOf bondC x y = bondL x y := by
  unfold ltOf bondL bondC orN cN
  rcases Nat.lt_trichotomy y.bond x.bond with h | h | h
  · have : ¬ x.bond < y.bond := by omega
    simp [h]
  · have h1 : ¬ y.bond < x.bond := by omega
    have h2 : ¬ x.bond < y.bond := by omega
    rw [if_neg h1, if_neg h2]
    rcases Nat.lt_trichotomy x.ad y.ad with k | k | k
    · simp [k, h]
    · have k1 : ¬ x.ad < y.ad := by omega
      have k2 : ¬ y.ad < x.ad := by omega
      simp [k1, k2, h1]
    · have k1 : ¬ x.ad < y.ad := by omega
      simp [k, k1, h1]
  · have h1 : ¬ y.bond < x.bond := by omega
    have h2 : ¬ x.bond = y.bond := by omega
    simp [h, h1, h2]
theorem swoBond : SWO (ltOf bondC) where
  irrefl x := by rw [ltBond]; simp [bondL]
  trans x y z h1 h2 := by rw [ltBond] at *; simp only [bondL, decide_eq_true_eq] at *; omega
  ntrans x y z h1 h2 := by rw [ltBond] at *; simp only [bondL, decide_eq_false_iff_not] at *; omega

section
variable [Inhabited Ac]
theorem cmpLays26 (blk off size : Nat) (w : World) : CmpLays Tryz.prog 41 #[] ac5 5 bondC blk off size w :=
  fun _ _ _ _ x y => bond26 _ x y
theorem getD_toArray (l : List Ac) (i : Nat) (m : Ac) (h : l[i]? = some m) : l.toArray[i]! = m := by
  simp [getElem!_def, h]
theorem holdsAc {w : World} {g cap : Nat} {cur : Array Value} {l : List Ac} (hl : (acC l).length = l.length * 5) (hg : w.heap[g]? = some (.cells cur 50 (0, 0))) (ht : cur.toList.take (l.length * 5) = acC l) : HoldsK ac5 5 w g 0 l.toArray := by
  intro j hj
  rw [size_flatK] at hj
  have hj' : j < l.length * 5 := by simpa using hj
  rw [get_flatK _ _ _ _ hj]
  have hm : l[j / 5]? = some (l[j / 5]'(by omega)) := List.getElem?_eq_getElem (by omega)
  rw [getD_toArray l _ _ hm]
  have hx := acC_at l (j / 5) _ hm (j % 5) (by omega)
  rw [show j / 5 * 5 + j % 5 = j by omega, ← ht, List.getElem?_take_of_lt hj'] at hx
  have h5 : j % 5 < 5 := by omega
  have hv : cur[j]? = some ((ac5 (l[j / 5]'(by omega)))[j % 5]!) := by
    rw [← Array.getElem?_toList, hx]
    have : j % 5 < (ac5 (l[j / 5]'(by omega))).length := by simpa [ac5] using h5
    have e : ∀ (q : List Value) (i : Nat), i < q.length → q[i]? = some (q[i]!) := fun q i h => by rw [List.getElem?_eq_getElem h]; simp [h]
    exact e _ _ this
  rw [Nat.zero_add]
  exact ⟨(cell_of_row _ _ j _ 50 (0, 0) hg).trans hv, frozen_of_row _ _ j _ 50 hg⟩
theorem turn_sort {w : World} {g n : Nat} {d : Array Ac} {os : Array Obj} : Turn (fun k => k = g) w (sortWorldK ac5 5 w g 0 n d os) := by
  refine ⟨rfl, rfl, rfl, ?_, fun k hk hs => ?_⟩
  · simp [sortWorldK, grow, putRowK, putRow, mapBlock]
  · have hk' : ¬ g = k := fun e => hs e.symm
    show (w.heap.modify g (onCells (putCells id 0 (flatK ac5 5 d))) ++ os)[k]? = w.heap[k]?
    rw [Array.getElem?_append_left (by simpa using hk), Array.getElem?_modify, if_neg hk']
/-- Accounts sorted by byBond. -/
def BySort (l : List Ac) : Prop := ∀ (i j : Nat) (x y : Ac), i < j → l[i]? = some x → l[j]? = some y → bondL y x = false
set_option maxRecDepth 100000 in
theorem sort25I (w : World) (v : Value) (l : List Ac) (O : OwnN w 50 5 v l.length (acC l)) (hok : ∀ m ∈ l, m.ok) (hbig : l.length ≤ 140737488355328) : Calls Tryz.prog 40 #[v, .func (.func 41) #[] #[]] w fun e w' =>
    e = .returned (.tuple #[]) ∧ ∃ l', l'.Perm l ∧ BySort l' ∧ As w' v l' ∧ Turn (fun k => v.ownBlock = some k) w w' := by
  rcases O.2 with ⟨rfl, h0⟩ | ⟨g, cap, cur, rfl, _, hg, h1, h2, h3, h4⟩
  · refine (sort25_0 w none 0 _).mono ?_
    rintro e w' ⟨rfl, rfl⟩
    have : l = [] := List.length_eq_zero_iff.1 h0
    subst this
    exact ⟨rfl, [], List.Perm.refl _, (fun i j x y _ hx _ => by simp at hx), O.as hok, Turn.refl _ _⟩
  · have hH : HoldsK ac5 5 w g 0 l.toArray := holdsAc (cap := cap) O.1 hg h4
    have hblk : g < w.heap.size := (Array.getElem?_eq_some_iff.1 hg).1
    have eg : ∀ args w, (callFunc 41 args).run Tryz.prog w = .ok (.enter 41 args) w := enters_of Tryz.func41 (by kernel_rfl) rfl
    have hcon := AnyQ.slices_SortFunc sortAc 5 Tryz.isAgg50 Tryz.sizeOf50 ac5 (fun _ => rfl) (fun x v hv => by simp [ac5] at hv; rcases hv with rfl | rfl | rfl | rfl | rfl <;> rfl) bondC swoBond 41 #[] g 0 cap l.toArray w eg (cmpLays26 g 0 _ w) hH hblk (by simp; omega)
    have hcon : Calls Tryz.prog 40 #[.slice (some ⟨g, 0, none⟩) l.length cap, .func (.func 41) #[] #[]] w _ := hcon
    refine hcon.mono ?_
    rintro e w' ⟨rfl, d', n, os, hp, hs, rfl⟩
    have hsz : d'.size = l.length := by have := hp.1; simpa using this
    have hperm : d'.toList.Perm l := by
      have := hp.2.2
      simp only [List.size_toArray] at this
      rw [Array.extract_eq_self_of_le (by omega), Array.extract_eq_self_of_le (by simp)] at this
      exact this
    refine ⟨rfl, d'.toList, hperm, ?_, ⟨some ⟨g, 0, none⟩, cap, by simp [hsz], ?_, h2, fun m hm => hok m (hperm.mem_iff.1 hm), fun j m hj => ?_⟩, turn_sort.mono (fun k _ e => by rw [e]; rfl)⟩
    · intro i j x y hij hx hy
      have hj : j < d'.size := by have := (List.getElem?_eq_some_iff.1 hy).1; simpa using this
      have := hs i j (Nat.zero_le _) hij (by simpa [hsz] using hj)
      rw [ltBond] at this
      have ex : d'[i]! = x := by simp at hx; simp [getElem!_def, hx]
      have ey : d'[j]! = y := by simp at hy; simp [getElem!_def, hy]
      rwa [ex, ey] at this
    · simp [hsz]; omega
    · have hjd : j < d'.size := by have := (List.getElem?_eq_some_iff.1 hj).1; simpa using this
      have em : d'[j]! = m := by simp at hj; simp [getElem!_def, hj]
      have hh := holdsK_sortWorldK_c ac5 5 w g 0 l.toArray d' n os hH hblk (by simp [hsz])
      have c := fun (c : Nat) (hc : c < 5) => (hh.cell hjd hc).1
      rw [em] at c
      exact ⟨g, 0, rfl, c 0 (by omega), c 1 (by omega), c 2 (by omega), c 3 (by omega), c 4 (by omega)⟩
end
theorem sort25 (w : World) (v : Value) (l : List Ac) (O : OwnN w 50 5 v l.length (acC l)) (hok : ∀ m ∈ l, m.ok) (hbig : l.length ≤ 140737488355328) : Calls Tryz.prog 40 #[v, .func (.func 41) #[] #[]] w fun e w' =>
    e = .returned (.tuple #[]) ∧ ∃ l', l'.Perm l ∧ BySort l' ∧ As w' v l' ∧ Turn (fun k => v.ownBlock = some k) w w' :=
  @sort25I ⟨acZ⟩ w v l O hok hbig
end Go.Proofs.YtaoigopjfelgpaaGreatDoor


/- Seats, of whatever accounts. -/
namespace Go.Proofs.YtaoigopjfelgpaaGreatDoor
open Go.RowKit Go.Maps
set_option linter.unusedVariables false

theorem law35 : Keyed Tryz.prog 26 := int_keyed Tryz.underlying26
def heldElem (v : Value) : Option (DataW Value × List MemPlace) := some (.held v, [])
theorem zero23 (w : World) : (zeroValue 23).run Tryz.prog w = .ok (.int .u64 0) w := by kernel_rfl
theorem mapTurn {w w' : World} {b : Nat} (h : w.mapTurned w' b) : Turn (fun k => k = b) w w' :=
  (Turn.refl _ w).grown h.grown (fun k q _ => (Option.some.inj q).symm)
theorem ownsMap_turn {S : Nat → Prop} {w w' : World} {k : TypeId} {R : Value → Option (DataW Value × List MemPlace)} {b n : Nat} {D : DataW Value} (h : w.ownsMap Tryz.prog k R b n D) (t : Turn S w w') (hn : ¬ S b) : w'.ownsMap Tryz.prog k R b n D := by
  obtain ⟨es, clock, hb, r⟩ := h
  exact ⟨es, clock, t.obj hb hn, r⟩
theorem key35 (n : Nat) (h : n < 18446744073709551616) : keyOf Tryz.prog 26 (.int .u64 (n : Int)) = some (.int .u64 n) := keyOf_int_mk Tryz.underlying26 (by
  simp only [Lit.wf, Bool.and_eq_true, decide_eq_true_eq]
  constructor
  · rw [show IntKind.u64.min = 0 by decide]; omega
  · rw [show IntKind.u64.max = 18446744073709551615 by decide]; omega)
theorem info37 : (Tryz.prog.info? 55).map (fun i => (i.zero, i.size, i.bytes)) = some (some (.agg #[.int .u64 0, .int .u64 0, .int .i64 0]), 3, 24) := by kernel_rfl
/-- A member's cells. -/
def meC (l : List Ac) : List Value := l.flatMap (fun m => [.int .u64 m.ad, .int .u64 m.bond, .int .i64 0])
theorem src_mem (W : World) (m : Ac) : Src Tryz.prog 3 37 (.slice (some ⟨W.heap.size, 0, none⟩) 1 1) 1 (meC [m]) (W.alloc (.cells #[.int .u64 m.ad, .int .u64 m.bond, .int .i64 0] 55)) := by
  refine Src.ofSlice _ Tryz.underlying37 _ 1 1 _ rfl (fun j u hu => ?_) (fun u hu => ?_)
  · rw [Addr.add_lit, Nat.zero_add]
    exact (cell_of_row _ _ j _ 55 (0, 0) (heap_alloc_new W _)).trans (by simpa [meC] using hu)
  · simp [meC] at hu
    rcases hu with rfl | rfl | rfl <;> rfl
theorem held_inv {v : Value} {d : DataW Value} {ps : List MemPlace} (h : heldElem v = some (d, ps)) : d = .held v := by simp [heldElem] at h; exact h.1.symm
/-- The map of bonds. -/
def mapOf (l : List Ac) : DataW Value := l.foldl (fun D m => D.put (.int .u64 m.ad) (.held (.int .u64 m.bond))) (.map [])
theorem mapOf_snoc (l : List Ac) (m : Ac) : mapOf (l ++ [m]) = (mapOf l).put (.int .u64 m.ad) (.held (.int .u64 m.bond)) := by simp [mapOf]
theorem rev_ind {p : List Ac → Prop} (h0 : p []) (h1 : ∀ l m, p l → p (l ++ [m])) (l : List Ac) : p l := by
  rw [← List.reverse_reverse l]
  induction l.reverse with
  | nil => exact h0
  | cons m r ih => rw [List.reverse_cons]; exact h1 _ _ ih
theorem isMap_of (l : List Ac) : IsMap (mapOf l) := by
  refine rev_ind (p := fun l => IsMap (mapOf l)) ⟨_, rfl⟩ (fun l m ih => ?_) l
  rw [mapOf_snoc]
  obtain ⟨es, h⟩ := ih
  rw [h]
  exact ⟨_, rfl⟩
theorem keyLit (n : Nat) : WideAt.IsKeyLit (.int .u64 (n : Int)) := by trivial
theorem has_of (x : Nat) (l : List Ac) : has (mapOf l) (.int .u64 (x : Int)) = l.any (fun m => decide (m.ad = x)) := by
  refine rev_ind (p := fun l => has (mapOf l) (.int .u64 (x : Int)) = l.any (fun m => decide (m.ad = x))) rfl (fun l m ih => ?_) l
  · rw [mapOf_snoc, List.any_append, List.any_cons, List.any_nil, Bool.or_false]
    by_cases h : m.ad = x
    · subst h
      rw [has_put_same (isMap_of l) (keyLit _)]
      simp
    · rw [has_put_other (by simp; omega), ih]
      simp [h]
theorem at_of (m : Ac) (l : List Ac) (z : DataW Value) (hm : m ∈ l) (hd : ∀ x ∈ l, x.ad = m.ad → x = m) : (mapOf l).atKey (.int .u64 (m.ad : Int)) z = .held (.int .u64 m.bond) := by
  revert hm hd
  refine rev_ind (p := fun l => m ∈ l → (∀ x ∈ l, x.ad = m.ad → x = m) → (mapOf l).atKey (.int .u64 (m.ad : Int)) z = .held (.int .u64 m.bond)) (fun hm _ => by cases hm) (fun l x ih hm hd => ?_) l
  · rw [mapOf_snoc]
    by_cases h : x.ad = m.ad
    · have := hd x (by simp) h
      subst this
      rw [atKey_put_same (isMap_of l) (keyLit _)]
    · rw [atKey_put_other (by simp; omega)]
      refine ih ?_ (fun y hy => hd y (by simp [hy]))
      rcases List.mem_append.1 hm with q | q
      · exact q
      · simp at q; subst q; exact absurd rfl h
/-- How many seats are taken. -/
def cnt (st : Int) (n : Nat) : Nat := (max 0 (min (min st 64) (n : Int))).toNat
theorem cnt_le (st : Int) (n : Nat) : cnt st n ≤ n := by unfold cnt; omega
theorem meC_append (l m : List Ac) : meC (l ++ m) = meC l ++ meC m := by simp [meC]
theorem meC_len (l : List Ac) : (meC l).length = l.length * 3 := by
  induction l with
  | nil => rfl
  | cons m r ih => simp only [meC, List.flatMap_cons, List.length_append, List.length_cons, List.length_nil] at ih ⊢; omega
/-- Who sits: of all accounts those whose address is among the first of the sorted rivals. -/
def sitB (q : List Ac) (m : Ac) : Bool := q.any (fun x => decide (x.ad = m.ad))
end Go.Proofs.YtaoigopjfelgpaaGreatDoor


/- Seats, of whatever accounts. -/
namespace Go.Proofs.YtaoigopjfelgpaaGreatDoor
open Go.RowKit Go.Maps
set_option linter.unusedVariables false

theorem As.turn_ge {S : Nat → Prop} {w w' : World} {v : Value} {l : List Ac} (h : As w v l) (t : Turn S w w') (hS : ∀ k, S k → w.heap.size ≤ k) : As w' v l := by
  obtain ⟨a, cap, e, h⟩ := h
  refine ⟨a, cap, e, h.le, h.cap, h.ok, fun j m hj => ?_⟩
  obtain ⟨b, off, e, c0, c1, c2, c3, c4⟩ := h.cells j m hj
  have hb : ¬ S b := fun z => by
    have h1 := hS _ z
    have h2 : b < w.heap.size := World.block_lt_of_cell? w _ c0
    omega
  exact ⟨b, off, e, t.keep c0 hb, t.keep c1 hb, t.keep c2 hb, t.keep c3 hb, t.keep c4 hb⟩
/-- Accounts at an address. -/
theorem As.cells {w : World} {a : Option Addr} {n cap : Nat} {l : List Ac} (h : As w (.slice a n cap) l) : ∀ j m, l[j]? = some m → ∃ b off, a = some ⟨b, off, none⟩ ∧ w.cell? ⟨b, off + j * 5, none⟩ = some (.int .u64 m.ad) ∧ w.cell? ⟨b, off + j * 5 + 1, none⟩ = some (.int .u64 m.bal) ∧ w.cell? ⟨b, off + j * 5 + 2, none⟩ = some (.int .u64 m.bond) ∧ w.cell? ⟨b, off + j * 5 + 3, none⟩ = some (.int .u64 m.nonce) ∧ w.cell? ⟨b, off + j * 5 + 4, none⟩ = some (.bool m.jail) := by
  obtain ⟨x, y, e, h⟩ := h
  have ea : a = x := by simp at e; exact e.1
  rw [ea]
  exact h.cells
theorem As.oks {w : World} {v : Value} {l : List Ac} (h : As w v l) : ∀ m ∈ l, m.ok := by
  obtain ⟨x, y, e, h⟩ := h
  exact h.ok
theorem mapOf_take {q : List Ac} {k : Nat} {m : Ac} (h : q[k]? = some m) : mapOf (q.take (k + 1)) = (mapOf (q.take k)).put (.int .u64 m.ad) (.held (.int .u64 m.bond)) := by
  obtain ⟨hk, rfl⟩ := List.getElem?_eq_some_iff.1 h
  rw [List.take_succ_eq_append_getElem hk, mapOf_snoc]
set_option maxRecDepth 100000 in
set_option maxHeartbeats 4000000 in
theorem seats8 (w : World) (va vr : Value) (l : List Ac) (ha : As w va l) (hl : l.length * 40 ≤ 140737488355328) (hd : ∀ x ∈ l, ∀ y ∈ l, x.ad = y.ad → x = y) (b s : Int) (P : Array Value) (mb : Nat) (st : Int) (hP0 : P[0]? = some (.int .u64 mb)) (hP1 : P[1]? = some (.int .i64 st)) :
    Calls Tryz.prog 11 #[.agg #[va, .slice none 0 0, .int .u64 b, .int .u64 s], .agg P] w fun e w' =>
    ∃ v' q, e = .returned v' ∧ q.Perm (rivL (max mb 1) l) ∧ BySort q ∧ OwnN w' 55 3 v' (l.filter (sitB (q.take (cnt st q.length)))).length (meC (l.filter (sitB (q.take (cnt st q.length))))) ∧ Turn no w w' := by
  have HL := shut hl
  have HD := shut hd
  have HA := shut ha
  obtain ⟨a, cap, rfl, h⟩ := ha
  obtain ⟨w0, hw0⟩ : ∃ w0, (w.alloc (.cells #[.slice a l.length cap, .slice none 0 0, .int .u64 b, .int .u64 s] 30)).alloc (.cells P 25) = w0 := ⟨_, rfl⟩
  have T0 : Turn no w w0 := by rw [← hw0]; exact ((Turn.refl no w).alloc _).alloc _
  have g0 : w0.cell? ⟨w.heap.size, 0, none⟩ = some (.slice a l.length cap) := by rw [← hw0]; simp
  have RP : w0.heap[w.heap.size + 1]? = some (.cells P 25 (0, 0)) := by
    rw [← hw0]
    have := heap_alloc_new (w.alloc (.cells #[.slice a l.length cap, .slice none 0 0, .int .u64 b, .int .u64 s] 30)) (.cells P 25)
    simpa using this
  have p0 : w0.cell? ⟨w.heap.size + 1, 0, none⟩ = some (.int .u64 mb) := (cell_of_row _ _ 0 _ 25 (0, 0) RP).trans hP0
  have p1 : w0.cell? ⟨w.heap.size + 1, 1, none⟩ = some (.int .i64 st) := (cell_of_row _ _ 1 _ 25 (0, 0) RP).trans hP1
  have hr := rivals24 w0 _ l (HA.out.turn_no T0) (max mb 1) hl
  have hmx : ((max mb 1 : Nat) : Int) = max (mb : Int) 1 := by omega
  rw [hmx] at hr
  have HT0 := shut T0
  have HW : Shut (w.heap.size + 2 ≤ w0.heap.size) := by show _ ≤ _; rw [← hw0]; simp
  clear T0 h RP hP0 hP1 hl hd
  go_enter Tryz.func11, Tryz.ntmps11
  go_wp2_with fail
  refine hr.mono ?_
  rintro e w1 ⟨v1, rfl, O1, f1, t1⟩
  have hok : ∀ m ∈ rivL (max mb 1) l, m.ok := fun m hm => by
    obtain ⟨_, _, _, h⟩ := HA.out
    exact h.ok m (List.mem_filter.1 hm).1
  have hRl : (rivL (max mb 1) l).length ≤ 140737488355328 := by
    have := rivL_len (max mb 1) l
    have := HL.out
    omega
  have hs := sort25 w1 v1 _ O1 hok hRl
  have g0 := t1.keep g0 (fun q => q)
  have p1 := t1.keep p1 (fun q => q)
  have HT1 := shut (HT0.out.then_no t1)
  have HW1 : Shut (w.heap.size + 2 ≤ w1.heap.size) := Nat.le_trans HW.out t1.size
  have HF : Shut (∀ g, v1.ownBlock = some g → w.heap.size + 2 ≤ g) := fun g hg => Nat.le_trans HW.out (f1 g hg)
  obtain ⟨a1, cap1, e1, _⟩ := id O1.form
  subst e1
  have HRL : Shut (∀ m ∈ rivL (max mb 1) l, m ∈ l) := fun m hm => (List.mem_filter.1 hm).1
  generalize hrl : rivL (max mb 1) l = rl at *
  have HRLE := shut hrl
  clear hrl
  clear hr t1 p0 HW O1 f1 hw0 HT0 hok hRl hmx
  go_wp2_with fail
  refine hs.mono ?_
  rintro e w2 ⟨rfl, q, hq, hsq, A2, t2⟩
  have HQ := shut hq
  have HSQ := shut hsq
  have hql : q.length = rl.length := hq.length_eq
  have A2' : As w2 (.slice a1 q.length cap1) q := by rw [hql]; exact A2
  have g0 := t2.keep g0 (fun z => by have h1 := HF.out _ z; have h2 : w.heap.size + 2 ≤ w.heap.size := h1; omega)
  have p1 := t2.keep p1 (fun z => by have h1 := HF.out _ z; have h2 : w.heap.size + 2 ≤ w.heap.size + 1 := h1; omega)
  have HT2 : Shut (Turn no w w2) := HT1.out.trans t2 (fun i hi z => by have := HF.out _ z; omega)
  have HW2 : Shut (w.heap.size + 2 ≤ w2.heap.size) := Nat.le_trans HW1.out t2.size
  rw [← hql]
  clear hs hq hsq A2 t2 HT1 HW1 hql
  obtain ⟨n, hn⟩ : ∃ n, Hid (q.length = n) := ⟨_, rfl⟩
  have hn' : q.length = n := hn.out
  rw [hn']
  rw [hn'] at A2'
  have m1 := fun W => run_makeMap (P := Tryz.prog) 84 W
  clear hn'
  obtain ⟨c, hc⟩ : ∃ c, Hid (cnt st n = c) := ⟨_, rfl⟩
  have hcn : c ≤ n := by rw [← hc.out]; exact cnt_le st n
  have hnc : n ≤ cap1 := by
    obtain ⟨_, _, e, h⟩ := A2'
    have := h.le
    have e' := hn.out
    simp at e
    omega
  have hcc : (0 : Int) ≤ (c : Int) ∧ (c : Int) ≤ (cap1 : Int) := by omega
  have hcases : (st ≤ 64 ∧ st ≤ (n : Int) ∧ max 0 st = (c : Int)) ∨ (st ≤ 64 ∧ ¬ st ≤ (n : Int) ∧ max 0 (n : Int) = (c : Int)) ∨ (¬ st ≤ 64 ∧ (64 : Int) ≤ (n : Int) ∧ max 0 (64 : Int) = (c : Int)) ∨ (¬ st ≤ 64 ∧ ¬ (64 : Int) ≤ (n : Int) ∧ max 0 (n : Int) = (c : Int)) := by
    have := hc.out
    unfold cnt at this
    omega
  have HA2 := shut A2'
  have HCN := shut hcn
  have hc64 : c ≤ 64 := by have := hc.out; unfold cnt at this; omega
  clear A2' hcn hnc
  rcases hcases with ⟨k1, k2, k3⟩ | ⟨k1, k2, k3⟩ | ⟨k1, k2, k3⟩ | ⟨k1, k2, k3⟩
  all_goals
    go_wp2_with fail
    have t3 : Turn no w2 (w2.alloc (.map #[] 0)) := (Turn.refl no w2).alloc _
    have o3 := World.ownsMap_made w2 Tryz.prog 26 heldElem
    have hMg : ∀ k, k = w2.heap.size → w2.heap.size ≤ k := fun k e => by omega
    have hg0 : ¬ w.heap.size = w2.heap.size := by have := HW2.out; omega
    have HK : Shut (∀ W, Turn (fun k => k = w2.heap.size) w2 W → W.cell? ⟨w.heap.size, 0, none⟩ = some (.slice a l.length cap) ∧ As W (.slice a1 n cap1) q ∧ As W (.slice a l.length cap) l ∧ Turn no w W) := fun W t =>
      ⟨t.keep g0 hg0, HA2.out.turn_ge t hMg, (HA.out.turn_no HT2.out).turn_ge t hMg, HT2.out.trans t (fun i hi e => by have := HW2.out; omega)⟩
    have HOQ := shut HA2.out.oks
    have HT3 := shut t3
    have HO3 := shut o3
    clear t3 o3 hMg hg0 g0 p1 m1 HA2 k1 k2 k3 hcc
    generalize w2.alloc (.map #[] 0) = w3 at *
    obtain ⟨M, hM⟩ : ∃ M, w2.heap.size = M := ⟨_, rfl⟩
    rw [hM] at HO3 HK
    simp only [hM]
    have HM := shut hM
    clear hM
    go_loopw [34] (fun x wr => ∃ k : Nat, k ≤ c ∧ x = .int .i64 k ∧ Shut (Turn (fun z => z = M) w2 wr ∧ wr.ownsMap Tryz.prog 26 heldElem M k (mapOf (q.take k)))) (fun x _ => c - (intOf x).toNat)
    case atStart => exact ⟨0, by omega, rfl, HT3.out.of_no, HO3.out⟩
    case round =>
      obtain ⟨k, hk, rfl, HI⟩ := hrel
      by_cases hlt : k < c
      · have hkq : k < q.length := by rw [hn.out]; have := HCN.out; omega
        obtain ⟨y, hy⟩ : ∃ y, q[k]? = some y := ⟨q[k]'hkq, List.getElem?_eq_getElem _⟩
        obtain ⟨bb, off, rfl, c0, c1, c2, c3, c4⟩ := (HK.out wr HI.out.1).2.1.cells k y hy
        have hyk : y.ok := HOQ.out y (List.mem_of_getElem? hy)
        have hlt' : (k : Int) < (c : Int) := by omega
        have hk1 : Hid (k + 1 ≤ c) := hlt
        have t4 : Turn no wr (wr.alloc (.cells #[.int .u64 y.ad, .int .u64 y.bal, .int .u64 y.bond, .int .u64 y.nonce, .bool y.jail] 50)) := (Turn.refl no wr).alloc _
        obtain ⟨w4, hst, o4, mt⟩ := (ownsMap_turn HI.out.2 t4 (fun q => q)).store law35 Tryz.underlying84 (by simp only [maxLen]; omega) (key35 y.ad hyk.1) (val := .int .u64 y.bond) (d := .held (.int .u64 y.bond)) (ps := []) rfl
        have hst : (Instr.mapUpdate 84 (.map (some M)) (.int .u64 y.ad) (.int .u64 y.bond)).run Tryz.prog (wr.alloc (.cells #[.int .u64 y.ad, .int .u64 y.bal, .int .u64 y.bond, .int .u64 y.nonce, .bool y.jail] 50)) = .ok () w4 := hst
        have HN : Shut (Turn (fun z => z = M) w2 w4 ∧ w4.ownsMap Tryz.prog 26 heldElem M (k + 1) (mapOf (q.take (k + 1)))) := ⟨(HI.out.1.then_no t4).trans (mapTurn mt) (fun _ _ e => e), by rw [mapOf_take hy]; exact o4⟩
        clear t4 o4 mt hy hyk HK
        go_wp2_with fail
        go_roundw
        case rel => exact ⟨k + 1, hk1.out, by go_num, HN⟩
        case measure => have := hk1.out; simp [intOf]; omega
      · have hkc : c = k := by omega
        subst hkc
        have hlt' : ¬ (c : Int) < (c : Int) := by omega
        obtain ⟨g0, _, _, _⟩ := HK.out wr HI.out.1
        have HK2 : Shut (∀ W, Turn no wr W → As W (.slice a l.length cap) l ∧ W.ownsMap Tryz.prog 26 heldElem M c (mapOf (q.take c)) ∧ Turn no w W) := fun W t => ⟨(HK.out wr HI.out.1).2.2.1.turn_no t, ownsMap_turn HI.out.2 t (fun q => q), (HK.out wr HI.out.1).2.2.2.then_no t⟩
        have HOL := shut HA.out.oks
        have HNN : Shut (q.take (cnt st q.length) = q.take c) := by
          have h1 := hn.out
          have h2 := hc.out
          show _ = _
          rw [h1, h2]
        have HSIT : Shut (∀ y ∈ l, sitB (q.take c) y = true → y ∈ q.take c) := fun y hy h => by
          unfold sitB at h
          obtain ⟨x, hx, hxy⟩ := List.any_eq_true.1 h
          have e : x.ad = y.ad := by simpa using hxy
          have : x = y := HD.out x (HRL.out x (HQ.out.mem_iff.1 (List.mem_of_mem_take hx))) y hy e
          rw [← this]
          exact hx
        have HUNI : Shut (∀ y ∈ l, ∀ x ∈ q.take c, x.ad = y.ad → x = y) := fun y hy x hx e => HD.out x (HRL.out x (HQ.out.mem_iff.1 (List.mem_of_mem_take hx))) y hy e
        obtain ⟨N, hN⟩ : ∃ N, Hid (l.length = N) := ⟨_, rfl⟩
        have hN' := hN.out
        have hNb : N ≤ 140737488355328 := by have := HL.out; omega
        rw [hN'] at g0 HK2
        rw [hN']
        clear hN' HK HI HCN HO3 HT3 HOQ hlt hk hc64 HRL HD
        generalize q.take c = qc at *
        go_wp2_with fail
        obtain ⟨wo, rfl⟩ : ∃ wo : World, wo = wr := ⟨_, rfl⟩
        clear g0
        go_loopw [10, 47] (fun r x wr => ∃ j : Nat, j ≤ N ∧ x = .int .i64 j ∧ (∃ ra rn rc, r = .slice ra rn rc) ∧ Shut (OwnN wr 55 3 r ((l.take j).filter (sitB qc)).length (meC ((l.take j).filter (sitB qc))) ∧ (∀ g, r.ownBlock = some g → wo.heap.size ≤ g) ∧ Turn no wo wr)) (fun _ x _ => N - (intOf x).toNat)
        case atStart => exact ⟨0, by omega, rfl, ⟨_, _, _, rfl⟩, OwnN.nil _ 55 3, (fun g hg => by cases hg), Turn.refl _ _⟩
        case round =>
          obtain ⟨j, hj, rfl, ⟨ra, rn, rc, rfl⟩, HI⟩ := hrel
          by_cases hjN : j < N
          · obtain ⟨y, hy⟩ : ∃ y, l[j]? = some y := ⟨l[j]'(by rw [hN.out]; exact hjN), List.getElem?_eq_getElem _⟩
            obtain ⟨hA, hO, _⟩ := HK2.out wr HI.out.2.2
            obtain ⟨bb, off, rfl, c0, c1, c2, c3, c4⟩ := hA.cells j y hy
            have hyl : y ∈ l := List.mem_of_getElem? hy
            have hyk : y.ok := HOL.out y hyl
            have hlt2 : (j : Int) < (N : Int) := by omega
            have hj1 : Hid (j + 1 ≤ N) := hjN
            have t5 : Turn no wr (wr.alloc (.cells #[.int .u64 y.ad, .int .u64 y.bal, .int .u64 y.bond, .int .u64 y.nonce, .bool y.jail] 50)) := (Turn.refl no wr).alloc _
            obtain ⟨vv, ps, hlk, hv⟩ := (ownsMap_turn hO t5 (fun q => q)).look_ok law35 Tryz.underlying84 (zero23 _) (zd := .held (.int .u64 0)) (zp := []) rfl (key35 y.ad hyk.1)
            rw [has_of] at hlk
            have HTK : Shut ((l.take (j + 1)).filter (sitB qc) = (l.take j).filter (sitB qc) ++ (if sitB qc y then [y] else [])) := by
              obtain ⟨hk, rfl⟩ := List.getElem?_eq_some_iff.1 hy
              show _ = _
              rw [List.take_succ_eq_append_getElem hk, List.filter_append, List.filter_cons, List.filter_nil]
            by_cases hsit : sitB qc y = true
            · have ev : vv = .int .u64 y.bond := by
                have h1 := held_inv hv
                rw [at_of y qc _ (HSIT.out y hyl hsit) (HUNI.out y hyl)] at h1
                simpa using h1.symm
              subst ev
              have hsit' : qc.any (fun m => decide (m.ad = y.ad)) = true := hsit
              rw [hsit'] at hlk
              have hlk : (Instr.lookup 84 (.map (some M)) (.int .u64 y.ad) true).run Tryz.prog (wr.alloc (.cells #[.int .u64 y.ad, .int .u64 y.bal, .int .u64 y.bond, .int .u64 y.nonce, .bool y.jail] 50)) = .ok (.tuple #[.int .u64 y.bond, .bool true]) (wr.alloc (.cells #[.int .u64 y.ad, .int .u64 y.bal, .int .u64 y.bond, .int .u64 y.nonce, .bool y.jail] 50)) := hlk
              have hs1 := src_mem (wr.alloc (.cells #[.int .u64 y.ad, .int .u64 y.bal, .int .u64 y.bond, .int .u64 y.nonce, .bool y.jail] 50)) y
              rw [show (wr.alloc (.cells #[.int .u64 y.ad, .int .u64 y.bal, .int .u64 y.bond, .int .u64 y.nonce, .bool y.jail] 50)).heap.size = wr.heap.size + 1 by simp] at hs1
              have t6 : Turn no wr ((wr.alloc (.cells #[.int .u64 y.ad, .int .u64 y.bal, .int .u64 y.bond, .int .u64 y.nonce, .bool y.jail] 50)).alloc (.cells #[.int .u64 y.ad, .int .u64 y.bond, .int .i64 0] 55)) := t5.alloc _
              have HT6 := shut t6
              have ho1 := HI.out.1.turn_no t6
              have hle : ((l.take j).filter (sitB qc)).length ≤ j := by
                have h1 := List.length_filter_le (sitB qc) (l.take j)
                rw [List.length_take] at h1
                omega
              have hbig : (((l.take j).filter (sitB qc)).length + 1) * 24 ≤ 140737488355328 := by have := HL.out; have := hN.out; omega
              have hmx : ((l.take j).filter (sitB qc)).length + 1 ≤ maxLen := by simp only [maxLen]; omega
              have HTS : Shut ((l.take (j + 1)).filter (sitB qc) = (l.take j).filter (sitB qc) ++ [y]) := by
                have := HTK.out
                rw [if_pos hsit] at this
                exact this
              clear t5 t6 hv hA hO hy hyl hyk hsit hsit' HTK hle
              generalize (l.take j).filter (sitB qc) = fl at *
              go_wp2_with (at_builtin; refine wpList_append_srcN rfl _ _ rfl Tryz.underlying37 info37 rfl (by omega) (.slice ra rn rc) fl.length (meC fl) rfl ho1 _ 1 (meC [y]) rfl hs1 hbig hmx ?_; intro v2 w5 O2 G2)
              obtain ⟨a2, cap2, e2, _⟩ := O2.form
              refine ⟨⟨j + 1, hj1.out, by go_num, ⟨_, _, _, e2⟩, ?_, G2.fresh HI.out.2.1 ?_, (HI.out.2.2.then_no HT6.out).fresh G2 HI.out.2.1⟩, ?_⟩
              · rw [HTS.out, List.length_append, meC_append]
                exact O2
              · have h1 := HI.out.2.2.size
                have h2 := HT6.out.size
                omega
              · have := hj1.out
                simp [intOf]
                omega
            · have hsit' : qc.any (fun m => decide (m.ad = y.ad)) = false := by simpa [sitB] using hsit
              rw [hsit'] at hlk
              have hlk : (Instr.lookup 84 (.map (some M)) (.int .u64 y.ad) true).run Tryz.prog (wr.alloc (.cells #[.int .u64 y.ad, .int .u64 y.bal, .int .u64 y.bond, .int .u64 y.nonce, .bool y.jail] 50)) = .ok (.tuple #[vv, .bool false]) (wr.alloc (.cells #[.int .u64 y.ad, .int .u64 y.bal, .int .u64 y.bond, .int .u64 y.nonce, .bool y.jail] 50)) := hlk
              have HN : Shut (OwnN (wr.alloc (.cells #[.int .u64 y.ad, .int .u64 y.bal, .int .u64 y.bond, .int .u64 y.nonce, .bool y.jail] 50)) 55 3 (.slice ra rn rc) ((l.take (j + 1)).filter (sitB qc)).length (meC ((l.take (j + 1)).filter (sitB qc))) ∧ (∀ g, (Value.slice ra rn rc).ownBlock = some g → wo.heap.size ≤ g) ∧ Turn no wo (wr.alloc (.cells #[.int .u64 y.ad, .int .u64 y.bal, .int .u64 y.bond, .int .u64 y.nonce, .bool y.jail] 50))) := by
                have e := HTK.out
                rw [if_neg hsit, List.append_nil] at e
                show _ ∧ _ ∧ _
                rw [e]
                exact ⟨HI.out.1.turn_no t5, HI.out.2.1, HI.out.2.2.then_no t5⟩
              clear t5 hv hA hO hy hyl hyk hsit hsit' HTK
              go_wp2_with fail
              go_roundw
              case rel => exact ⟨j + 1, hj1.out, by go_num, ⟨_, _, _, rfl⟩, HN⟩
              case measure => have := hj1.out; simp [intOf]; omega
          · have hjN' : N = j := by omega
            subst hjN'
            have hlt2 : ¬ (N : Int) < (N : Int) := by omega
            have HF : Shut (l.take N = l) := List.take_of_length_le (by rw [hN.out]; exact Nat.le_refl _)
            have HTT := shut (HK2.out wr HI.out.2.2).2.2
            go_wp2_with fail
            go_ret
            have h := HI.out.1
            rw [HF.out] at h
            exact ⟨_, rfl, q, by rw [HRLE.out]; exact HQ.out, HSQ.out, by rw [HNN.out]; exact h, HTT.out⟩
end Go.Proofs.YtaoigopjfelgpaaGreatDoor


/- The law's find. -/
namespace Go.Proofs.YtaoigopjfelgpaaGreatDoor
open Go.RowKit
set_option linter.unusedVariables false

theorem store5 {w : World} {g : Nat} {a b c d e : Value} {t : TypeId} (R : w.heap[g]? = some (.cells #[a, b, c, d, e] t (0, 0))) (x0 x1 x2 x3 x4 : Value) :
    (w.cell? ⟨g, 0, none⟩ = some a ∧ w.frozen? ⟨g, 0, none⟩ = false) ∧ ((w.setCell ⟨g, 0, none⟩ x0).cell? ⟨g, 1, none⟩ = some b ∧ (w.setCell ⟨g, 0, none⟩ x0).frozen? ⟨g, 1, none⟩ = false) ∧
    (((w.setCell ⟨g, 0, none⟩ x0).setCell ⟨g, 1, none⟩ x1).cell? ⟨g, 2, none⟩ = some c ∧ ((w.setCell ⟨g, 0, none⟩ x0).setCell ⟨g, 1, none⟩ x1).frozen? ⟨g, 2, none⟩ = false) ∧
    ((((w.setCell ⟨g, 0, none⟩ x0).setCell ⟨g, 1, none⟩ x1).setCell ⟨g, 2, none⟩ x2).cell? ⟨g, 3, none⟩ = some d ∧ (((w.setCell ⟨g, 0, none⟩ x0).setCell ⟨g, 1, none⟩ x1).setCell ⟨g, 2, none⟩ x2).frozen? ⟨g, 3, none⟩ = false) ∧
    (((((w.setCell ⟨g, 0, none⟩ x0).setCell ⟨g, 1, none⟩ x1).setCell ⟨g, 2, none⟩ x2).setCell ⟨g, 3, none⟩ x3).cell? ⟨g, 4, none⟩ = some e ∧ ((((w.setCell ⟨g, 0, none⟩ x0).setCell ⟨g, 1, none⟩ x1).setCell ⟨g, 2, none⟩ x2).setCell ⟨g, 3, none⟩ x3).frozen? ⟨g, 4, none⟩ = false) ∧
    (((((w.setCell ⟨g, 0, none⟩ x0).setCell ⟨g, 1, none⟩ x1).setCell ⟨g, 2, none⟩ x2).setCell ⟨g, 3, none⟩ x3).setCell ⟨g, 4, none⟩ x4).heap[g]? = some (.cells #[x0, x1, x2, x3, x4] t (0, 0)) ∧
    Turn (fun k => k = g) w (((((w.setCell ⟨g, 0, none⟩ x0).setCell ⟨g, 1, none⟩ x1).setCell ⟨g, 2, none⟩ x2).setCell ⟨g, 3, none⟩ x3).setCell ⟨g, 4, none⟩ x4) := by
  have R1 := heap_setCell_same w g 0 _ t x0 R
  have R2 := heap_setCell_same _ g 1 _ t x1 R1
  have R3 := heap_setCell_same _ g 2 _ t x2 R2
  have R4 := heap_setCell_same _ g 3 _ t x3 R3
  have R5 := heap_setCell_same _ g 4 _ t x4 R4
  exact ⟨⟨cell_of_row _ _ 0 _ t (0, 0) R, frozen_of_row _ _ 0 _ t R⟩, ⟨cell_of_row _ _ 1 _ t (0, 0) R1, frozen_of_row _ _ 1 _ t R1⟩, ⟨cell_of_row _ _ 2 _ t (0, 0) R2, frozen_of_row _ _ 2 _ t R2⟩, ⟨cell_of_row _ _ 3 _ t (0, 0) R3, frozen_of_row _ _ 3 _ t R3⟩, ⟨cell_of_row _ _ 4 _ t (0, 0) R4, frozen_of_row _ _ 4 _ t R4⟩, R5,
    (((((Turn.refl (fun k => k = g) w).setCell (p := ⟨g, 0, none⟩) (fun _ => rfl) _).setCell (p := ⟨g, 1, none⟩) (fun _ => rfl) _).setCell (p := ⟨g, 2, none⟩) (fun _ => rfl) _).setCell (p := ⟨g, 3, none⟩) (fun _ => rfl) _).setCell (p := ⟨g, 4, none⟩) (fun _ => rfl) _⟩
end Go.Proofs.YtaoigopjfelgpaaGreatDoor


/- P8.16, plain; members in memory. -/
namespace Go.Proofs.YtaoigopjfelgpaaGreatDoor
open Go.RowKit
set_option linter.unusedVariables false

def Asc (l : List Ac) : Prop := l.Pairwise (fun x y => x.ad < y.ad)
theorem scanA_asc : ∀ (l : List Ac) (p : Nat), scanA p l = 0 → Asc l ∧ ∀ m ∈ l, p < m.ad
  | [], _, _ => ⟨List.Pairwise.nil, fun m h => by cases h⟩
  | x :: r, p, h => by
    unfold scanA at h
    split at h
    · cases h
    · split at h
      · cases h
      · split at h
        · cases h
        · obtain ⟨h1, h2⟩ := scanA_asc r _ h
          refine ⟨List.Pairwise.cons h2 h1, fun m hm => ?_⟩
          rcases List.mem_cons.1 hm with rfl | hm
          · omega
          · have := h2 m hm
            omega
theorem Asc.inj {l : List Ac} (h : Asc l) : ∀ x ∈ l, ∀ y ∈ l, x.ad = y.ad → x = y := by
  induction h with
  | nil => intro x hx; cases hx
  | cons h1 h2 ih =>
    intro x hx y hy e
    rcases List.mem_cons.1 hx with hx1 | hx1 <;> rcases List.mem_cons.1 hy with hy1 | hy1
    · rw [hx1, hy1]
    · have := h1 y hy1; rw [← hx1] at this; omega
    · have := h1 x hx1; rw [← hy1] at this; omega
    · exact ih x hx1 y hy1 e
theorem Asc.nodup {l : List Ac} (h : Asc l) : l.Nodup := List.Pairwise.imp (fun {a b} hab e => by subst e; exact Nat.lt_irrefl _ hab) h
theorem Asc.at {l : List Ac} (h : Asc l) {i j : Nat} {x y : Ac} (hij : i < j) (hx : l[i]? = some x) (hy : l[j]? = some y) : x.ad < y.ad := by
  obtain ⟨hi, rfl⟩ := List.getElem?_eq_some_iff.1 hx
  obtain ⟨hj, rfl⟩ := List.getElem?_eq_some_iff.1 hy
  exact List.pairwise_iff_getElem.1 h i j hi hj hij
/-- P8.16 of the seats. -/
structure Seated (l L : List Ac) (mb : Nat) (st : Int) : Prop where
  asc : Asc L
  good : ∀ y ∈ L, y ∈ l ∧ y.jail = false ∧ mb ≤ y.bond ∧ 0 < y.bond
  few : L.length ≤ 64
  some : 0 < L.length → (L.length : Int) ≤ st
  out : ∀ x ∈ l, x.jail = false → mb ≤ x.bond → 0 < x.bond → (∀ y ∈ L, y.ad ≠ x.ad) → (64 ≤ L.length ∨ st ≤ L.length) ∧ ∀ y ∈ L, ¬ (y.bond < x.bond ∨ (x.bond = y.bond ∧ x.ad < y.ad))
theorem seated_of {l q : List Ac} {mb : Nat} {st : Int} (hasc : Asc l) (hq : q.Perm (rivL (max mb 1) l)) (hs : BySort q) : Seated l (l.filter (sitB (q.take (cnt st q.length)))) mb st := by
  have hc := cnt_le st q.length
  have hqm : ∀ x, x ∈ q ↔ x ∈ l ∧ x.jail = false ∧ mb ≤ x.bond ∧ 0 < x.bond := fun x => by
    rw [hq.mem_iff]
    simp only [rivL, List.mem_filter, rivB, Bool.and_eq_true, Bool.not_eq_true', decide_eq_true_eq]
    have e : max mb 1 ≤ x.bond ↔ (mb ≤ x.bond ∧ 0 < x.bond) := by omega
    rw [e]
  have hqn : q.Nodup := hq.symm.nodup (List.Nodup.sublist List.filter_sublist hasc.nodup)
  have hmem : ∀ y, y ∈ l.filter (sitB (q.take (cnt st q.length))) ↔ y ∈ q.take (cnt st q.length) := fun y => by
    rw [List.mem_filter]
    constructor
    · rintro ⟨hy, h⟩
      unfold sitB at h
      obtain ⟨x, hx, hxy⟩ := List.any_eq_true.1 h
      have e : x.ad = y.ad := by simpa using hxy
      have : x = y := hasc.inj x ((hqm x).1 (List.mem_of_mem_take hx)).1 y hy e
      rw [← this]
      exact hx
    · intro h
      exact ⟨((hqm y).1 (List.mem_of_mem_take h)).1, List.any_eq_true.2 ⟨y, h, by simp⟩⟩
  have hlen : (l.filter (sitB (q.take (cnt st q.length)))).length = cnt st q.length := by
    have h1 : (l.filter (sitB (q.take (cnt st q.length)))).Perm (q.take (cnt st q.length)) :=
      (List.perm_ext_iff_of_nodup (List.Nodup.sublist List.filter_sublist hasc.nodup) (List.Nodup.sublist (List.take_sublist _ _) hqn)).2 hmem
    rw [h1.length_eq, List.length_take]
    omega
  refine ⟨List.Pairwise.filter _ hasc, fun y hy => (hqm y).1 (List.mem_of_mem_take ((hmem y).1 hy)), ?_, ?_, ?_⟩
  · rw [hlen]; unfold cnt; omega
  · rw [hlen]; unfold cnt; omega
  · intro x hx hj hb h0 hno
    have hxq : x ∈ q := (hqm x).2 ⟨hx, hj, hb, h0⟩
    obtain ⟨j, hj', hxj⟩ := List.getElem_of_mem hxq
    have hjc : cnt st q.length ≤ j := by
      rcases Nat.lt_or_ge j (cnt st q.length) with h | h
      · have : x ∈ q.take (cnt st q.length) := by
          rw [← hxj]
          exact List.mem_take_iff_getElem.2 ⟨j, by omega, rfl⟩
        exact absurd rfl (hno x ((hmem x).2 this))
      · exact h
    refine ⟨?_, fun y hy hlt => ?_⟩
    · rw [hlen]
      unfold cnt at hjc ⊢
      omega
    · obtain ⟨i, hi, hyi⟩ := List.mem_take_iff_getElem.1 ((hmem y).1 hy)
      have := hs i j y x (by omega) (by rw [← hyi]; exact List.getElem?_eq_getElem _) (by rw [← hxj]; exact List.getElem?_eq_getElem _)
      unfold bondL at this
      simp only [decide_eq_false_iff_not] at this
      exact this hlt
/-- Where an address lies first. -/
theorem Asc.first {l : List Ac} (h : Asc l) {y : Ac} (hy : y ∈ l) : ∃ j : Nat, l[j]? = some y ∧ ∀ (i : Nat) (n : Ac), i < j → l[i]? = some n → n.ad ≠ y.ad := by
  obtain ⟨j, hj, hyj⟩ := List.getElem_of_mem hy
  refine ⟨j, by rw [List.getElem?_eq_getElem hj, hyj], fun i n hi hn => ?_⟩
  have := h.at hi hn (by rw [List.getElem?_eq_getElem hj, hyj])
  omega

theorem meC_at : ∀ (l : List Ac) (j : Nat) (m : Ac), l[j]? = some m → ∀ i, i < 3 → (meC l)[j * 3 + i]? = [Value.int .u64 m.ad, .int .u64 m.bond, .int .i64 0][i]?
  | x :: r, 0, m, h, i, hi => by
    simp at h
    subst h
    rw [meC, List.flatMap_cons, Nat.zero_mul, Nat.zero_add, List.getElem?_append_left (by simpa using hi)]
  | x :: r, j + 1, m, h, i, hi => by
    rw [meC, List.flatMap_cons, List.getElem?_append_right (by simp; omega)]
    have := meC_at r j m (by simpa using h) i hi
    rw [meC] at this
    rw [← this]
    congr 1
    simp
    omega
/-- Members in memory: who sits. -/
theorem mem_cells {w : World} {a : Option Addr} {n cap : Nat} {l : List Ac} (h : OwnN w 55 3 (.slice a n cap) l.length (meC l)) : ∀ j m, l[j]? = some m → ∃ b, a = some ⟨b, 0, none⟩ ∧ w.cell? ⟨b, j * 3, none⟩ = some (.int .u64 m.ad) ∧ w.cell? ⟨b, j * 3 + 1, none⟩ = some (.int .u64 m.bond) ∧ w.cell? ⟨b, j * 3 + 2, none⟩ = some (.int .i64 0) := by
  intro j m hj
  have hjl := (List.getElem?_eq_some_iff.1 hj).1
  rcases h.2 with ⟨_, q⟩ | ⟨g, cap', cur, e, _⟩
  · omega
  · cases e
    have hc : ∀ i u, (meC l)[i]? = some u → w.cell? ⟨g, i, none⟩ = some u := fun i u hu => by
      have := World.ownsRow.cells h (g := g) rfl i u hu
      simpa [Addr.add_lit] using this
    have hx := meC_at l j m hj
    refine ⟨g, rfl, ?_, ?_, ?_⟩
    · exact hc _ _ (by have := hx 0 (by omega); simpa using this)
    · exact hc _ _ (by have := hx 1 (by omega); simpa using this)
    · exact hc _ _ (by have := hx 2 (by omega); simpa using this)
end Go.Proofs.YtaoigopjfelgpaaGreatDoor


/- Find of two accounts; alive. -/
namespace Go.Proofs.YtaoigopjfelgpaaGreatDoor
open Go.RowKit Go.Maps
set_option linter.unusedVariables false

def acA : Ac := ⟨1, 100, 0, 0, false⟩
def acB : Ac := ⟨2, 0, 50, 7, false⟩
theorem acA_ok : acA.ok := by unfold Ac.ok acA; simp
theorem acB_ok : acB.ok := by unfold Ac.ok acB; simp
theorem rivAB : rivL 10 [acA, acB] = [acB] := by simp [rivL, rivB, acA, acB]
def pAB : Array Value := #[.int .u64 10, .int .i64 2, .int .u64 0, .int .u64 0, .int .u64 0, .int .i64 0, .int .u64 0, .int .u64 0, .int .u64 0, .int .u64 0, .int .u64 0, .int .u64 0]
theorem seats_two (w : World) (a : Addr) (cap : Nat) (h : AsAt w (some a) cap [acA, acB]) (b s : Int) :
    Calls Tryz.prog 11 #[.agg #[.slice (some a) 2 cap, .slice none 0 0, .int .u64 b, .int .u64 s], .agg pAB] w fun e w' => ∃ g c, e = .returned (.slice (some ⟨g, 0, none⟩) 1 c) ∧ 1 ≤ c ∧ w'.cell? ⟨g, 0, none⟩ = some (.int .u64 2) ∧ w'.cell? ⟨g, 1, none⟩ = some (.int .u64 50) ∧ Turn no w w' := by
  refine (seats8 w _ (.slice none 0 0) [acA, acB] ⟨_, _, rfl, h⟩ (by decide) (fun x hx y hy e => ?_) b s pAB 10 2 rfl rfl).mono ?_
  · simp at hx hy
    rcases hx with rfl | rfl <;> rcases hy with rfl | rfl <;> first | rfl | (exact absurd e (by decide))
  · rintro e w' ⟨v', q, rfl, hq, _, O, t⟩
    rw [show max 10 1 = 10 from rfl, rivAB] at hq
    have e1 := List.perm_singleton.1 hq
    subst e1
    have e2 : ([acA, acB].filter (sitB ([acB].take (cnt 2 [acB].length)))) = [acB] := by kernel_rfl
    rw [e2] at O
    obtain ⟨a, c, rfl, _, _, hc, _⟩ := O.form
    obtain ⟨g, rfl, c0, c1, _⟩ := mem_cells O 0 acB rfl
    exact ⟨g, c, rfl, hc, c0, c1, t⟩

set_option maxRecDepth 100000 in
set_option maxHeartbeats 1000000 in
theorem mine30 (w : World) (x0 x1 x2 x3 : Int) (x4 : Bool) (p : Addr) (a : Int) (hp : w.cell? p = some (.int .u64 a)) : Calls Tryz.prog 53 #[.agg #[.int .u64 x0, .int .u64 x1, .int .u64 x2, .int .u64 x3, .bool x4], .pointer (some p)] w fun e w' => e = .returned (.bool (x0 == a)) ∧ Turn no w w' := by
  have T0 : Turn no w (w.alloc (.cells #[.int .u64 x0, .int .u64 x1, .int .u64 x2, .int .u64 x3, .bool x4] 50)) := (Turn.refl no w).alloc _
  have hp1 := T0.keep hp (fun q => q)
  have HT := shut T0
  clear T0
  go_enter Tryz.func53, Tryz.ntmps53
  go_wp2_with fail
  go_ret
  exact ⟨rfl, HT.out⟩
set_option maxRecDepth 100000 in
set_option maxHeartbeats 2000000 in
theorem index29 (w : World) (b off cap : Nat) (h : AsAt w (some ⟨b, off, none⟩) cap [acA, acB]) (p : Addr) (hp : w.cell? p = some (.int .u64 2)) : Calls Tryz.prog 52 #[.slice (some ⟨b, off, none⟩) 2 cap, .func (.func 53) #[] #[.pointer (some p)]] w fun e w' => e = .returned (.int .i64 1) ∧ Turn no w w' := by
  obtain ⟨b0, off0, ea, y0, y1, y2, y3, y4⟩ := h.cells 0 acA rfl
  obtain ⟨b1, off1, eb, z0, z1, z2, z3, z4⟩ := h.cells 1 acB rfl
  cases ea
  cases eb
  have HK : Shut (∀ W, Turn no w W → (W.cell? ⟨b, off, none⟩ = some (.int .u64 1) ∧ W.cell? ⟨b, off + 1, none⟩ = some (.int .u64 100) ∧ W.cell? ⟨b, off + 2, none⟩ = some (.int .u64 0) ∧ W.cell? ⟨b, off + 3, none⟩ = some (.int .u64 0) ∧ W.cell? ⟨b, off + 4, none⟩ = some (.bool false)) ∧
      (W.cell? ⟨b, off + 5, none⟩ = some (.int .u64 2) ∧ W.cell? ⟨b, off + 5 + 1, none⟩ = some (.int .u64 0) ∧ W.cell? ⟨b, off + 5 + 2, none⟩ = some (.int .u64 50) ∧ W.cell? ⟨b, off + 5 + 3, none⟩ = some (.int .u64 7) ∧ W.cell? ⟨b, off + 5 + 4, none⟩ = some (.bool false)) ∧ W.cell? p = some (.int .u64 2)) := fun W t =>
    ⟨⟨t.keep y0 (fun q => q), t.keep y1 (fun q => q), t.keep y2 (fun q => q), t.keep y3 (fun q => q), t.keep y4 (fun q => q)⟩, ⟨t.keep z0 (fun q => q), t.keep z1 (fun q => q), t.keep z2 (fun q => q), t.keep z3 (fun q => q), t.keep z4 (fun q => q)⟩, t.keep hp (fun q => q)⟩
  clear y0 y1 y2 y3 y4 z0 z1 z2 z3 z4 hp h
  go_enter Tryz.func52, Tryz.ntmps52
  go_wp2_with fail
  go_loopw [8] (fun c wr => (c = .int .i64 0 ∧ wr = w) ∨ (c = .int .i64 1 ∧ Shut (Turn no w wr))) (fun c _ => 2 - (intOf c).toNat)
  case atStart => exact Or.inl ⟨rfl, rfl⟩
  case round =>
    rcases hrel with ⟨rfl, rfl⟩ | ⟨rfl, HI⟩
    · obtain ⟨⟨y0, y1, y2, y3, y4⟩, _, hp⟩ := HK.out wr (Turn.refl _ _)
      have hcl := mine30 wr 1 100 0 0 false p 2 hp
      clear HK
      go_wp2_with fail
      refine hcl.mono ?_
      rintro e w1 ⟨rfl, t1⟩
      have HT := shut t1
      clear hcl t1
      go_wp2_with fail
      go_roundw
      case rel => exact Or.inr ⟨rfl, HT⟩
      case measure => simp [intOf]
    · obtain ⟨_, ⟨z0, z1, z2, z3, z4⟩, hp⟩ := HK.out wr HI.out
      have hcl := mine30 wr 2 0 50 7 false p 2 hp
      clear HK
      go_wp2_with fail
      refine hcl.mono ?_
      rintro e w1 ⟨rfl, t1⟩
      have HT := shut (HI.out.then_no t1)
      clear hcl t1
      go_wp2_with fail
      go_ret
      exact ⟨rfl, HT.out⟩
set_option maxRecDepth 100000 in
set_option maxHeartbeats 2000000 in
theorem find13 (w : World) (b off cap : Nat) (h : AsAt w (some ⟨b, off, none⟩) cap [acA, acB]) (x s : Int) : Calls Tryz.prog 19 #[.agg #[.slice (some ⟨b, off, none⟩) 2 cap, .slice none 0 0, .int .u64 x, .int .u64 s], .int .u64 2] w fun e w' =>
    e = .returned (.tuple #[.agg #[.int .u64 2, .int .u64 0, .int .u64 50, .int .u64 7, .bool false], .int .i64 0]) ∧ Turn no w w' := by
  obtain ⟨w0, hw0⟩ : ∃ w0, ((w.alloc (.cells #[.slice (some ⟨b, off, none⟩) 2 cap, .slice none 0 0, .int .u64 x, .int .u64 s] 30)).alloc (.cells #[.int .u64 2] 26)).alloc (.cells #[.int .u64 0, .int .u64 0, .int .u64 0, .int .u64 0, .bool false] 50) = w0 := ⟨_, rfl⟩
  have T0 : Turn no w w0 := by rw [← hw0]; exact (((Turn.refl no w).alloc _).alloc _).alloc _
  have g0 : w0.cell? ⟨w.heap.size, 0, none⟩ = some (.slice (some ⟨b, off, none⟩) 2 cap) := by
    rw [← hw0]
    exact (((Turn.refl no _).alloc _).alloc _).keep (cell_of_row _ _ 0 _ 30 (0, 0) (heap_alloc_new w _)) (fun q => q)
  have g1 : w0.cell? ⟨w.heap.size + 1, 0, none⟩ = some (.int .u64 2) := by
    rw [← hw0]
    exact ((Turn.refl no _).alloc _).keep (cell_of_row _ _ 0 _ 26 (0, 0) (heap_alloc2_new w _ _)) (fun q => q)
  have R0 : w0.heap[w.heap.size + 1 + 1]? = some (.cells #[.int .u64 0, .int .u64 0, .int .u64 0, .int .u64 0, .bool false] 50 (0, 0)) := by
    rw [← hw0]
    have := heap_alloc_new ((w.alloc (.cells #[.slice (some ⟨b, off, none⟩) 2 cap, .slice none 0 0, .int .u64 x, .int .u64 s] 30)).alloc (.cells #[.int .u64 2] 26)) (.cells #[.int .u64 0, .int .u64 0, .int .u64 0, .int .u64 0, .bool false] 50)
    simpa using this
  have hi := index29 w0 b off cap (h.turn_no T0) ⟨w.heap.size + 1, 0, none⟩ g1
  obtain ⟨b1, off1, eb, z0, z1, z2, z3, z4⟩ := (h.turn_no T0).cells 1 acB rfl
  cases eb
  have HK : Shut (∀ W, Turn no w0 W → W.cell? ⟨w.heap.size, 0, none⟩ = some (.slice (some ⟨b, off, none⟩) 2 cap) ∧ W.cell? ⟨w.heap.size + 1, 0, none⟩ = some (.int .u64 2) ∧ (W.cell? ⟨b, off + 5, none⟩ = some (.int .u64 2) ∧ W.cell? ⟨b, off + 5 + 1, none⟩ = some (.int .u64 0) ∧ W.cell? ⟨b, off + 5 + 2, none⟩ = some (.int .u64 50) ∧ W.cell? ⟨b, off + 5 + 3, none⟩ = some (.int .u64 7) ∧ W.cell? ⟨b, off + 5 + 4, none⟩ = some (.bool false)) ∧ W.heap[w.heap.size + 1 + 1]? = some (.cells #[.int .u64 0, .int .u64 0, .int .u64 0, .int .u64 0, .bool false] 50 (0, 0)) ∧ Turn no w W) := fun W t =>
    ⟨t.keep g0 (fun q => q), t.keep g1 (fun q => q), ⟨t.keep z0 (fun q => q), t.keep z1 (fun q => q), t.keep z2 (fun q => q), t.keep z3 (fun q => q), t.keep z4 (fun q => q)⟩, t.obj R0 (fun q => q), T0.then_no t⟩
  have hmf : ∀ (fn : Fn) (first cap : Array Value) (w : World), (Instr.makeFunc fn first cap).run Tryz.prog w = .ok (.func fn first cap) w := fun _ _ _ _ => rfl
  clear z0 z1 z2 z3 z4 h R0 g1 T0
  go_enter Tryz.func19, Tryz.ntmps19
  go_wp2_with fail
  refine hi.mono ?_
  rintro e w1 ⟨rfl, t1⟩
  obtain ⟨g0, g1, ⟨z0, z1, z2, z3, z4⟩, R1, T1⟩ := HK.out w1 t1
  have HT := shut T1
  have HR := shut R1
  clear hi t1 T1 HK R1 hw0 hmf
  go_upto_region 4 with fail
  have hR := HR.out
  have hi5 : (Tryz.prog.info? 50).map (·.size) = some (#[Value.int .u64 2, .int .u64 0, .int .u64 50, .int .u64 7, .bool false]).size := by kernel_rfl
  have ho5 : (#[Value.int .u64 0, .int .u64 0, .int .u64 0, .int .u64 0, .bool false]).size = (#[Value.int .u64 2, .int .u64 0, .int .u64 50, .int .u64 7, .bool false]).size := rfl
  have h15 : (#[Value.int .u64 2, .int .u64 0, .int .u64 50, .int .u64 7, .bool false]).all (·.oneCell') = true := by simp [Value.oneCell']
  have HH := shut (And.intro hi5 (And.intro ho5 h15))
  clear hi5 ho5 h15
  go_wp2_with (refine wpList_store_row rfl 50 (.tmp 4) (.tmp 22) rfl (w.heap.size + 1 + 1) #[.int .u64 2, .int .u64 0, .int .u64 50, .int .u64 7, .bool false] rfl rfl 50 #[.int .u64 0, .int .u64 0, .int .u64 0, .int .u64 0, .bool false] hR HH.out.1 HH.out.2.1 HH.out.2.2 ?_)
  have R2 := setRow_heap w1 (w.heap.size + 1 + 1) _ #[.int .u64 2, .int .u64 0, .int .u64 50, .int .u64 7, .bool false] 50 _ HR.out
  have T2 : Turn no w (w1.setRow (w.heap.size + 1 + 1) #[.int .u64 2, .int .u64 0, .int .u64 50, .int .u64 7, .bool false]) :=
    HT.out.trans (S' := fun k => k = w.heap.size + 1 + 1) ⟨rfl, rfl, rfl, by simp [World.setRow], fun k _ hk => setRow_other w1 _ k _ hk⟩ (fun i hi q => by omega)
  exact ⟨rfl, _, results_cell_row_tmp (g := w.heap.size + 1 + 1) (cs := #[.int .u64 2, .int .u64 0, .int .u64 50, .int .u64 7, .bool false]) (t := 50) rfl _ _ _ _ rfl R2 Tryz.underlying50 rfl (by kernel_rfl), rfl, T2⟩

def lAB : Array Value := #[.int .u64 1, .int .u64 100, .int .u64 0, .int .u64 0, .bool false, .int .u64 2, .int .u64 0, .int .u64 50, .int .u64 7, .bool false]
theorem as_two (w : World) : AsAt (w.alloc (.cells lAB 50)) (some ⟨w.heap.size, 0, none⟩) 2 [acA, acB] := by
  have R := heap_alloc_new w (.cells lAB 50)
  refine ⟨by simp, by simp [maxLen], fun x hx => ?_, fun j x hj => ?_⟩
  · simp at hx
    rcases hx with rfl | rfl
    · exact acA_ok
    · exact acB_ok
  · match j with
    | 0 =>
      simp at hj
      subst hj
      exact ⟨_, _, rfl, cell_of_row _ _ 0 _ 50 (0, 0) R, cell_of_row _ _ 1 _ 50 (0, 0) R, cell_of_row _ _ 2 _ 50 (0, 0) R, cell_of_row _ _ 3 _ 50 (0, 0) R, cell_of_row _ _ 4 _ 50 (0, 0) R⟩
    | 1 =>
      simp at hj
      subst hj
      exact ⟨_, _, rfl, cell_of_row _ _ 5 _ 50 (0, 0) R, cell_of_row _ _ 6 _ 50 (0, 0) R, cell_of_row _ _ 7 _ 50 (0, 0) R, cell_of_row _ _ 8 _ 50 (0, 0) R, cell_of_row _ _ 9 _ 50 (0, 0) R⟩
    | j + 2 => simp at hj
theorem wholeAB : wholeN 0 [acA, acB] [] = 150 := by decide +kernel
theorem soundAB : soundE 0 [acA, acB] 150 = 0 := by decide +kernel
set_option maxRecDepth 100000 in
set_option maxHeartbeats 4000000 in
theorem alive5 (w : World) : Calls Tryz.prog 4 #[] w fun e w' => e = .returned (.bool true) ∧ Turn no w w' := by
  have T0 : Turn no w (w.alloc (.cells lAB 50)) := (Turn.refl no w).alloc _
  have hn : Calls Tryz.prog 6 #[.slice (some ⟨w.heap.size, 0, none⟩) 2 2] (w.alloc (.cells #[.int .u64 1, .int .u64 100, .int .u64 0, .int .u64 0, .bool false, .int .u64 2, .int .u64 0, .int .u64 50, .int .u64 7, .bool false] 50)) _ := new6 (w.alloc (.cells lAB 50)) _ [acA, acB] ⟨_, _, rfl, as_two w⟩ (by decide)
  have HT0 := shut T0
  clear T0
  go_enter Tryz.func4, Tryz.ntmps4
  go_wp2_with fail
  refine hn.mono ?_
  rintro e w1 hq
  rw [wholeAB, soundAB] at hq
  rcases hq with ⟨_, v1, rfl, O1, f1, t1⟩ | ⟨hq, _⟩
  · have A1 : As w1 v1 [acA, acB] := O1.as (fun m hm => by
      simp at hm
      rcases hm with rfl | rfl
      · exact acA_ok
      · exact acB_ok)
    obtain ⟨a1, c1, rfl, A1⟩ := A1
    obtain ⟨b1, o1, rfl, _⟩ := A1.cells 0 acA rfl
    have HA := shut A1
    have HT1 := shut (HT0.out.then_no t1)
    clear O1 f1 A1 t1 HT0 hn
    obtain ⟨w2, hw2⟩ : ∃ w2, w1.alloc (.cells #[.slice (some ⟨b1, o1, none⟩) 2 c1, .slice none 0 0, .int .u64 0, .int .u64 150] 30) = w2 := ⟨_, rfl⟩
    have t2 : Turn no w1 w2 := by rw [← hw2]; exact (Turn.refl no w1).alloc _
    have R2 : w2.heap[w1.heap.size]? = some (.cells #[.slice (some ⟨b1, o1, none⟩) 2 c1, .slice none 0 0, .int .u64 0, .int .u64 150] 30 (0, 0)) := by rw [← hw2]; exact heap_alloc_new w1 _
    have HK : Shut (∀ W, Turn no w2 W → W.cell? ⟨w1.heap.size, 0, none⟩ = some (.slice (some ⟨b1, o1, none⟩) 2 c1) ∧ W.cell? ⟨w1.heap.size, 1, none⟩ = some (.slice none 0 0) ∧ W.cell? ⟨w1.heap.size, 2, none⟩ = some (.int .u64 0) ∧ W.cell? ⟨w1.heap.size, 3, none⟩ = some (.int .u64 150) ∧ AsAt W (some ⟨b1, o1, none⟩) c1 [acA, acB] ∧ Turn no w W) := fun W t =>
      ⟨t.keep (cell_of_row _ _ 0 _ 30 (0, 0) R2) (fun q => q), t.keep (cell_of_row _ _ 1 _ 30 (0, 0) R2) (fun q => q), t.keep (cell_of_row _ _ 2 _ 30 (0, 0) R2) (fun q => q), t.keep (cell_of_row _ _ 3 _ 30 (0, 0) R2) (fun q => q), (HA.out.turn_no t2).turn_no t, (HT1.out.then_no t2).then_no t⟩
    clear t2 R2 HA HT1
    go_upto_region 2 with fail
    obtain ⟨k0, k1, k2, k3, A2, _⟩ := HK.out w2 (Turn.refl _ _)
    have hs : Calls Tryz.prog 11 #[.agg #[.slice (some ⟨b1, o1, none⟩) 2 c1, .slice none 0 0, .int .u64 0, .int .u64 150], .agg #[.int .u64 10, .int .i64 2, .int .u64 0, .int .u64 0, .int .u64 0, .int .i64 0, .int .u64 0, .int .u64 0, .int .u64 0, .int .u64 0, .int .u64 0, .int .u64 0]] w2 _ := seats_two w2 ⟨b1, o1, none⟩ c1 A2 0 150
    clear A2
    go_wp2_with fail
    refine hs.mono ?_
    rintro e w3 ⟨g3, c3, rfl, hc3, y0, y1, t3⟩
    obtain ⟨k0, k1, k2, k3, A3, _⟩ := HK.out w3 t3
    have hf := find13 w3 b1 o1 c1 A3 0 150
    have HT3 := shut t3
    have HY := shut (And.intro y0 y1)
    clear A3 hs t3 y0 y1 hw2
    go_upto_region 3 with fail
    go_wp2_with fail
    refine hf.mono ?_
    rintro e w4 ⟨rfl, t4⟩
    have t5 : Turn no w3 (w4.alloc (.cells #[.int .u64 2, .int .u64 0, .int .u64 50, .int .u64 7, .bool false] 50)) := t4.alloc _
    obtain ⟨k0, k1, k2, k3, _, TT⟩ := HK.out _ (HT3.out.then_no t5)
    have y0 := t5.keep HY.out.1 (fun q => q)
    have y1 := t5.keep HY.out.2 (fun q => q)
    have HTT := shut TT
    clear TT t4 t5 hf HK HT3 HY
    go_wp2_with fail
    go_ret
    exact ⟨rfl, HTT.out⟩
  · exact absurd rfl hq
end Go.Proofs.YtaoigopjfelgpaaGreatDoor



