/- The document's Seats, with memory of its own -/
import Derived.Test.YtaoigopjfelgpaaGreatDoorH3
namespace Go.Proofs.YtaoigopjfelgpaaGreatDoor
open Go.RowKit
set_option linter.unusedVariables false

set_option maxRecDepth 100000 in
set_option maxHeartbeats 80000000 in
theorem rseats15f (w : World) (va vr : Value) (l : List Ac) (ha : As w va l) (hr : ∃ ra rn rc, vr = .slice ra rn rc) (hA : Asc l) (hl : l.length ≤ 65536) (b s : Int) (mb : Nat) (st : Int) (p2 p3 p4 p5 p6 p7 p8 p9 p10 p11 : Value) :
    Calls Tryz.prog 15 #[.agg #[va, vr, .int .u64 b, .int .u64 s], .agg #[.int .u64 mb, .int .i64 st, p2, p3, p4, p5, p6, p7, p8, p9, p10, p11]] w fun e w' => ∃ v' L, e = .returned v' ∧ Seated l L mb st ∧ OwnN w' 55 3 v' L.length (meC L) ∧ (∀ g, v'.ownBlock = some g → w.heap.size ≤ g) ∧ Turn no w w' := by
  have HA := shut ha
  have HAS := shut hA
  obtain ⟨a, cap, rfl, h⟩ := ha
  obtain ⟨ra, rn, rc, rfl⟩ := hr
  clear h hA
  obtain ⟨w0, hw0⟩ : ∃ w0, (w.alloc (.cells #[.slice a l.length cap, .slice ra rn rc, .int .u64 b, .int .u64 s] 30)).alloc (.cells #[.int .u64 mb, .int .i64 st, p2, p3, p4, p5, p6, p7, p8, p9, p10, p11] 25) = w0 := ⟨_, rfl⟩
  have T0 : Turn no w w0 := by rw [← hw0]; exact ((Turn.refl no w).alloc _).alloc _
  have B0 : Row w0 w.heap.size #[.slice a l.length cap, .slice ra rn rc, .int .u64 b, .int .u64 s] 30 := by rw [← hw0]; exact (Row.new w _ 30).alloc _
  have B1 : Row w0 (w.heap.size + 1) #[.int .u64 mb, .int .i64 st, p2, p3, p4, p5, p6, p7, p8, p9, p10, p11] 25 := by rw [← hw0]; exact Row.newAt _ _ _ _ (by simp)
  have x00 := B0.cell 0 _ rfl
  obtain ⟨n, hn⟩ : ∃ n, Hid (l.length = n) := ⟨_, rfl⟩
  have hn' : l.length = n := hn.out
  have x0 : w0.cell? ⟨w.heap.size, 0, none⟩ = some (.slice a n cap) := by rw [← hn']; exact x00
  rw [hn'] at hw0 hl ⊢
  clear hn' x00
  have hmk := mk63 w0 n (by omega)
  obtain ⟨w1, hw1⟩ : ∃ w1, w0.alloc (.cells (tkA (List.replicate n false)) 4) = w1 := ⟨_, rfl⟩
  rw [hw1] at hmk
  have T1 : Turn no w0 w1 := by rw [← hw1]; exact (Turn.refl no w0).alloc _
  have RT : Row w1 w0.heap.size (tkA (List.replicate n false)) 4 := by rw [← hw1]; exact Row.new w0 _ 4
  have hs0 : w0.heap.size = w.heap.size + 2 := by rw [← hw0]; simp
  have HX : Shut (∀ W, Turn (fun k => k = w0.heap.size) w1 W → W.cell? ⟨w.heap.size, 0, none⟩ = some (.slice a n cap) ∧ W.cell? ⟨w.heap.size + 1, 0, none⟩ = some (.int .u64 mb) ∧ W.cell? ⟨w.heap.size + 1, 1, none⟩ = some (.int .i64 st) ∧ As W (.slice a n cap) l ∧ Turn no w W) := fun W t => by
    have tt : Turn (fun k => k = w0.heap.size) w0 W := T1.of_no.trans t (fun _ _ q => q)
    have tw : Turn no w W := T0.trans tt (fun i hi q => by omega)
    refine ⟨tt.keep x0 (fun q => ?_), tt.keep (B1.cell 0 _ rfl) (fun q => ?_), tt.keep (B1.cell 1 _ rfl) (fun q => ?_), ?_, tw⟩
    · have q' : w.heap.size = w0.heap.size := q
      omega
    · have q' : w.heap.size + 1 = w0.heap.size := q
      omega
    · have q' : w.heap.size + 1 = w0.heap.size := q
      omega
    · have := HA.out.turn_no tw
      rw [hn.out] at this
      exact this
  have HWX : Shut (∀ W, Turn (fun q => q = w0.heap.size) w1 W → w.heap.size < W.heap.size ∧ ∀ bb, ∀ o : Nat, a = some ⟨bb, o, none⟩ → 0 < n → bb < W.heap.size) := fun W t => by
    have h1 := t.size
    have h2 := T1.size
    refine ⟨by omega, fun bb o e hp => ?_⟩
    obtain ⟨m, hm⟩ : ∃ m, l[0]? = some m := ⟨l[0]'(by rw [hn.out]; exact hp), List.getElem?_eq_getElem _⟩
    obtain ⟨b', off', e', c0, _⟩ := HA.out.cells 0 m hm
    rw [e] at e'
    cases e'
    rcases Nat.lt_or_ge bb w.heap.size with q | q
    · omega
    · rw [show w.cell? ⟨bb, o + 0 * 5, none⟩ = none by simp [World.cell?, Array.getElem?_eq_none q]] at c0
      cases c0
  have HRT := shut RT
  have HT0 : Shut (Tkn mb l (List.replicate n false) 0) := by have := Tkn.zero mb l; rw [hn.out] at this; exact this
  have hnb : (n : Int) ≤ 65536 := by omega
  clear RT T1 hs0 B0 B1 T0 hw1
  go_enter Tryz.func15, Tryz.ntmps15
  go_upto_region 2 with fail
  try rw [hw0]
  clear hw0
  go_upto_region 3 with fail
  clear x0 hmk
  generalize hgt : w0.heap.size = gt at *
  clear hgt
  go_upto_region 4 with fail
  go_loopw [7] (fun c wr => ∃ (k : Nat) (t : List Bool), c = .int .i64 k ∧ Shut (k ≤ 64 ∧ (0 < k → (k : Int) ≤ st) ∧ Tkn mb l t k ∧ Row wr gt (tkA t) 4 ∧ Turn (fun q => q = gt) w1 wr)) (fun c _ => 64 - (intOf c).toNat)
  case atStart => exact ⟨0, _, rfl, by omega, fun q => absurd q (Nat.lt_irrefl _), HT0.out, HRT.out, Turn.refl _ _⟩
  case round =>
    obtain ⟨k, t, rfl, HI⟩ := hrel
    obtain ⟨wo, rfl⟩ : ∃ wo : World, wo = wr := ⟨_, rfl⟩
    obtain ⟨x0, x1, x2, hAs, hTw⟩ := HX.out wo HI.out.2.2.2.2
    by_cases hc : (k : Int) < st ∧ k < 64
    · obtain ⟨hc1, hc2⟩ := hc
      have hc2' : (k : Int) < 64 := by omega
      have HKK : Shut (k < 64 ∧ (k : Int) < st) := ⟨hc2, hc1⟩
      clear hc2 hAs hTw
      go_upto_region 8 with fail
      clear x0 x1 x2 hc1 hc2'
      go_loopw [8, 9] (fun c d wq => ∃ (i : Nat) (bi : Int), i ≤ n ∧ d = .int .i64 i ∧ c = .int .i64 bi ∧ Shut (Bst mb l t i bi ∧ Turn no wo wq)) (fun _ d _ => n - (intOf d).toNat)
      case atStart => exact ⟨0, -1, by omega, rfl, rfl, Bst.zero mb l t, Turn.refl _ _⟩
      case round =>
        obtain ⟨i, bi, hi, rfl, rfl, HJ⟩ := hrel
        have HTQ := shut (HI.out.2.2.2.2.then_no HJ.out.2)
        obtain ⟨x0, x1, x2, hAs, hTw⟩ := HX.out _ HTQ.out
        by_cases hlt : i < n
        · obtain ⟨x, hx⟩ : ∃ x, l[i]? = some x := ⟨l[i]'(by rw [hn.out]; exact hlt), List.getElem?_eq_getElem _⟩
          obtain ⟨tb, htb⟩ : ∃ tb, t[i]? = some tb := ⟨t[i]'(by rw [HI.out.2.2.1.len, hn.out]; exact hlt), List.getElem?_eq_getElem _⟩
          have hlt' : (i : Int) < (n : Int) := by omega
          have hi1 : Hid (i + 1 ≤ n) := hlt
          have HXI := shut hx
          have HTB := shut htb
          obtain ⟨bb, off, rfl, c0, c1, c2, c3, c4⟩ := hAs.cells i x hx
          obtain ⟨w2, hw2⟩ : ∃ w2, wr.alloc (.cells #[.int .u64 x.ad, .int .u64 x.bal, .int .u64 x.bond, .int .u64 x.nonce, .bool x.jail] 50) = w2 := ⟨_, rfl⟩
          have TA : Turn no wr w2 := by rw [← hw2]; exact (Turn.refl no wr).alloc _
          have RX : Row w2 wr.heap.size #[.int .u64 x.ad, .int .u64 x.bal, .int .u64 x.bond, .int .u64 x.nonce, .bool x.jail] 50 := by rw [← hw2]; exact Row.new wr _ 50
          have RT2 := (HI.out.2.2.2.1.turn HJ.out.2 (fun q => q)).turn TA (fun q => q)
          have e2 := RX.cell 2 _ rfl
          have e4 := RX.cell 4 _ rfl
          have et := RT2.cell i _ (tkA_at htb)
          have y0 := TA.keep x0 (fun q => q)
          have y1 := TA.keep x1 (fun q => q)
          have HTA := shut TA
          have HAS2 := shut (hAs.turn_no TA)
          have HBS := shut HJ.out.1
          clear hx htb RX RT2 TA hAs hTw
          go_upto_region 11 with fail
          try rw [hw2]
          clear hw2 c0 c1 c2 c3 c4 x0 x1 x2
          go_cut [74] from 26 to 75 (fun c wy => ∃ g : Bool, c = .bool g ∧ Shut (Turn no w2 wy ∧ (g = true → t[i]? = some false ∧ El mb x ∧ (bi = -1 ∨ ∃ (j : Nat) (m : Ac), bi = j ∧ l[j]? = some m ∧ m.bond < x.bond)) ∧ (g = false → t[i]? = some true ∨ ¬ El mb x ∨ ∃ (j : Nat) (m : Ac), bi = j ∧ l[j]? = some m ∧ x.bond ≤ m.bond)))
          case first =>
            cases tb with
            | true =>
              go_quiet (fail)
              go_wp2_with fail
              go_meet
              case rel => exact ⟨false, rfl, (Turn.refl no w2).drewN _, (fun q => by cases q), fun _ => Or.inl HTB.out⟩
            | false =>
              cases hj : x.jail with
              | true =>
                rw [hj] at e4
                have HJL := shut hj
                clear hj
                go_quiet (fail)
                go_wp2_with fail
                go_meet
                case rel => exact ⟨false, rfl, (Turn.refl no w2).drewN _, (fun q => by cases q), fun _ => Or.inr (Or.inl fun q => by have := q.1; rw [HJL.out] at this; cases this)⟩
              | false =>
                rw [hj] at e4
                have HJL := shut hj
                clear hj
                by_cases b1 : x.bond < mb
                · have b1' : ¬ (mb : Int) ≤ (x.bond : Int) := by omega
                  have HB := shut b1
                  clear b1
                  go_quiet (fail)
                  go_wp2_with fail
                  go_meet
                  case rel => exact ⟨false, rfl, (Turn.refl no w2).drewN _, (fun q => by cases q), fun _ => Or.inr (Or.inl fun q => by have h1 := q.2.1; have h2 := HB.out; omega)⟩
                · have b1' : (mb : Int) ≤ (x.bond : Int) := by omega
                  by_cases b2 : x.bond = 0
                  · have b2' : ¬ (1 : Int) ≤ (x.bond : Int) := by omega
                    have HB := shut b2
                    clear b1 b2
                    go_quiet (fail)
                    go_wp2_with fail
                    go_meet
                    case rel => exact ⟨false, rfl, (Turn.refl no w2).drewN _, (fun q => by cases q), fun _ => Or.inr (Or.inl fun q => by have h1 := q.2.2; have h2 := HB.out; omega)⟩
                  · have b2' : (1 : Int) ≤ (x.bond : Int) := by omega
                    have HEL : Shut (El mb x) := ⟨HJL.out, by omega, by omega⟩
                    clear b1 b2
                    rcases HBS.out with ⟨rfl, _⟩ | ⟨j, m, rfl, hji, hm, _⟩
                    · go_quiet (fail)
                      go_wp2_with fail
                      go_meet
                      case rel => exact ⟨true, rfl, (Turn.refl no w2).drewN _, (fun _ => ⟨HTB.out, HEL.out, Or.inl (by trivial)⟩), fun q => by cases q⟩
                    · obtain ⟨b3, off3, e3, _, _, m2, _⟩ := HAS2.out.cells j m hm
                      cases e3
                      have hj0 : ¬ (j : Int) < 0 := by omega
                      have hjn : (j : Int) < (n : Int) := by omega
                      have HM := shut hm
                      clear hm hji
                      by_cases b3 : m.bond < x.bond
                      · have b3' : (m.bond : Int) < (x.bond : Int) := by omega
                        have HB := shut b3
                        clear b3
                        go_quiet (fail)
                        go_wp2_with fail
                        go_meet
                        case rel => exact ⟨true, rfl, (Turn.refl no w2).drewN _, (fun _ => ⟨HTB.out, HEL.out, Or.inr ⟨j, m, rfl, HM.out, HB.out⟩⟩), fun q => by cases q⟩
                      · have b3' : ¬ (m.bond : Int) < (x.bond : Int) := by omega
                        have HB : Shut (x.bond ≤ m.bond) := by show _ ≤ _; omega
                        clear b3
                        go_quiet (fail)
                        go_wp2_with fail
                        go_meet
                        case rel => exact ⟨false, rfl, (Turn.refl no w2).drewN _, (fun q => by cases q), fun _ => Or.inr (Or.inr ⟨j, m, rfl, HM.out, HB.out⟩)⟩
          case rest =>
            obtain ⟨g, rfl, HG⟩ := hcut
            obtain ⟨wy, rfl⟩ : ∃ wy : World, wy = wc := ⟨_, rfl⟩
            cases g with
            | true =>
              obtain ⟨q1, q2, q3⟩ := HG.out.2.1 (by trivial)
              have HN : Shut (Bst mb l t (i + 1) i ∧ Turn no wo wy) := ⟨HBS.out.take HXI.out q1 q2 q3, (HJ.out.2.then_no HTA.out).then_no HG.out.1⟩
              clear q1 q2 q3 e2 e4 et y0 y1
              go_wp2_with fail
              go_roundw
              case rel => exact ⟨i + 1, _, hi1.out, by go_num, rfl, HN⟩
              case measure => have := hi1.out; simp [intOf]; omega
            | false =>
              have HN : Shut (Bst mb l t (i + 1) bi ∧ Turn no wo wy) := ⟨HBS.out.skip HXI.out (HG.out.2.2 (by trivial)), (HJ.out.2.then_no HTA.out).then_no HG.out.1⟩
              clear e2 e4 et y0 y1
              go_wp2_with fail
              go_roundw
              case rel => exact ⟨i + 1, _, hi1.out, by go_num, rfl, HN⟩
              case measure => have := hi1.out; simp [intOf]; omega
        · have hlt' : ¬ (i : Int) < (n : Int) := by omega
          have hin : Hid (i = n) := by show i = n; omega
          rcases HJ.out.1 with ⟨rfl, hno⟩ | ⟨j, m, rfl, hjn, hm, htj, hE, hb⟩
          · have HSD : Shut (Seated l (sel l t) mb st) := HI.out.2.2.1.seated HAS.out HI.out.1 HI.out.2.1 (Or.inr fun j m hm ht => hno j m (by have h1 := (List.getElem?_eq_some_iff.1 hm).1; have h2 := hn.out; have h3 := hin.out; omega) hm ht)
            have HRE : Shut (Row wr gt (tkA t) 4) := HI.out.2.2.2.1.turn HJ.out.2 (fun q => q)
            have HTE := HTQ
            have HLEN : Shut (t.length = n) := by show _ = _; rw [HI.out.2.2.1.len, hn.out]
            clear hno hAs hTw
            obtain ⟨we, rfl⟩ : ∃ we : World, we = wr := ⟨_, rfl⟩
            have HWE : Shut (w.heap.size < we.heap.size ∧ ∀ bb, ∀ o : Nat, a = some ⟨bb, o, none⟩ → 0 < n → bb < we.heap.size) := HWX.out we HTE.out
            generalize hsel : sel l t = SL at *
            have HSEL := shut hsel
            clear hsel
            go_upto_region 16 with fail
            go_loopw [5, 11] (fun c d wq => ∃ i : Nat, i ≤ n ∧ d = .int .i64 i ∧ (∃ ra rn rc, c = .slice ra rn rc) ∧ Shut (OwnN wq 55 3 c (sel (l.take i) (t.take i)).length (meC (sel (l.take i) (t.take i))) ∧ (∀ g, c.ownBlock = some g → we.heap.size ≤ g) ∧ Turn no we wq)) (fun _ d _ => n - (intOf d).toNat)
            case atStart => exact ⟨0, by omega, rfl, ⟨_, _, _, rfl⟩, OwnN.nil _ 55 3, (fun g hg => by cases hg), Turn.refl _ _⟩
            case round =>
              obtain ⟨i, hi, rfl, ⟨va, vn, vc, rfl⟩, HL⟩ := hrel
              obtain ⟨x0, _, _, hAs, hTw⟩ := HX.out wr (HTE.out.then_no HL.out.2.2)
              by_cases hlt : i < n
              · obtain ⟨x, hx⟩ : ∃ x, l[i]? = some x := ⟨l[i]'(by rw [hn.out]; exact hlt), List.getElem?_eq_getElem _⟩
                obtain ⟨tb, htb⟩ : ∃ tb, t[i]? = some tb := ⟨t[i]'(by rw [HLEN.out]; exact hlt), List.getElem?_eq_getElem _⟩
                have hlt' : (i : Int) < (n : Int) := by omega
                have hi1 : Hid (i + 1 ≤ n) := hlt
                obtain ⟨bb, off, rfl, c0, c1, c2, c3, c4⟩ := hAs.cells i x hx
                have et := (HRE.out.turn HL.out.2.2 (fun q => q)).cell i _ (tkA_at htb)
                have HTS := shut (sel_take l t i x tb hx htb)
                have hle : (sel (l.take i) (t.take i)).length ≤ i := by
                  have := sel_len (l.take i) (t.take i)
                  rw [List.length_take] at this
                  omega
                have HOW := shut HL.out.1
                have HFR := shut HL.out.2.1
                have HTL := shut HL.out.2.2
                have hbig : ((sel (l.take i) (t.take i)).length + 1) * 24 ≤ 140737488355328 := by omega
                have hmx : (sel (l.take i) (t.take i)).length + 1 ≤ maxLen := by simp only [maxLen]; omega
                clear hx htb hTw HL hAs
                generalize sel (l.take i) (t.take i) = fl at *
                cases tb with
                | false =>
                  have HN : Shut (OwnN wr 55 3 (.slice va vn vc) (sel (l.take (i + 1)) (t.take (i + 1))).length (meC (sel (l.take (i + 1)) (t.take (i + 1)))) ∧ (∀ g, (Value.slice va vn vc).ownBlock = some g → we.heap.size ≤ g) ∧ Turn no we wr) := by
                    have e := HTS.out
                    rw [if_neg (by decide), List.append_nil] at e
                    rw [e]
                    exact ⟨HOW.out, HFR.out, HTL.out⟩
                  clear c0 c1 c2 c3 c4
                  go_wp2_with fail
                  go_roundw
                  case rel => exact ⟨i + 1, hi1.out, by go_num, ⟨_, _, _, rfl⟩, HN⟩
                  case measure => have := hi1.out; simp [intOf]; omega
                | true =>
                  have ta : Turn no wr (wr.drew.alloc (.cells #[.int .u64 x.ad, .int .u64 x.bond, .int .i64 0] 55)) := ((Turn.refl no wr).drew).alloc _
                  obtain ⟨v2, w5, hr, O2, G2⟩ := run_append_srcN (P := Tryz.prog) Tryz.underlying37 info37 rfl (by decide) 37 _ (.slice va vn vc) fl.length (meC fl) (HOW.out.turn_no ta) _ 1 (meC [x]) (src_mem wr.drew x) hbig hmx
                  obtain ⟨a2, cap2, e2, _⟩ := id O2.form
                  subst e2
                  have T5 : Turn no we w5 := (HTL.out.then_no ta).fresh G2 HFR.out
                  have S5 : Turn (fun k => (Value.slice va vn vc).ownBlock = some k) wr w5 := ta.of_no.trans G2.turn (fun _ _ q => q)
                  have HN : Shut (OwnN w5 55 3 (.slice a2 (fl.length + 1) cap2) (sel (l.take (i + 1)) (t.take (i + 1))).length (meC (sel (l.take (i + 1)) (t.take (i + 1)))) ∧ (∀ g, (Value.slice a2 (fl.length + 1) cap2).ownBlock = some g → we.heap.size ≤ g) ∧ Turn no we w5) := by
                    have e := HTS.out
                    rw [if_pos rfl] at e
                    rw [e, List.length_append, meC_append]
                    exact ⟨O2, G2.fresh HFR.out (by have := HTL.out.size; have := ta.size; omega), T5⟩
                  have HS5 := shut S5
                  have HRUN := shut hr
                  have HTAA := shut ta
                  have HCC : Shut (∀ W, Turn (fun k => (Value.slice va vn vc).ownBlock = some k) wr W → W.cell? ⟨w.heap.size, 0, none⟩ = some (.slice (some ⟨bb, off, none⟩) n cap) ∧ W.cell? ⟨bb, off + i * 5, none⟩ = some (.int .u64 x.ad) ∧ W.cell? ⟨bb, off + i * 5 + 2, none⟩ = some (.int .u64 x.bond)) := fun W t => by
                    have hns : ∀ g v o, wr.cell? ⟨g, o, none⟩ = some v → g < we.heap.size → ¬ (Value.slice va vn vc).ownBlock = some g := fun g v o _ hg q => by have := HFR.out g q; omega
                    exact ⟨t.keep x0 (hns _ _ _ x0 (by have := HWE.out.1; omega)), t.keep c0 (hns _ _ _ c0 (HWE.out.2 bb off rfl (by omega))), t.keep c2 (hns _ _ _ c2 (HWE.out.2 bb off rfl (by omega)))⟩
                  clear O2 G2 T5 S5 hr ta hbig hmx
                  go_upto_region 19 with fail
                  clear c0 c1 c2 c3 c4 x0 et
                  refine wp_region_held_drew (S := fun W => Turn (fun k => (Value.slice va vn vc).ownBlock = some k) wr W) (by kernel_rfl) (Turn.refl _ wr).drew (fun hHeld => ?_)
                  refine' wpAnyH_take (i := 0) (v := .slice va vn vc) rfl (by kernel_rfl) (by kernel_rfl) (by kernel_rfl) (fun _ _ _ h => h) (Or.inl ⟨by kernel_rfl, fun W hW => ?y1⟩) hHeld ?r1
                  · go_simp
                  refine' wpAnyH_take (i := 1) (v := .pointer (some ⟨w.heap.size, 0, none⟩)) rfl (by kernel_rfl) (by kernel_rfl) (by kernel_rfl) (fun _ _ _ h => h) (Or.inl ⟨by kernel_rfl, fun W hW => ?y2⟩) hHeld ?r2
                  · go_simp
                  refine' wpAnyH_take (i := 2) (v := .slice (some ⟨bb, off, none⟩) n cap) rfl (by kernel_rfl) (by kernel_rfl) (by kernel_rfl) (fun _ _ _ h => h) (Or.inl ⟨by kernel_rfl, fun W hW => ?y3⟩) hHeld ?r3
                  · obtain ⟨q0, q1, q2⟩ := HCC.out W hW
                    go_simp
                  refine' wpAnyH_take (i := 3) (v := .int .i64 i) rfl (by kernel_rfl) (by kernel_rfl) (by kernel_rfl) (fun _ _ _ h => h) (Or.inl ⟨by kernel_rfl, fun W hW => ?y4⟩) hHeld ?r4
                  · go_simp
                  refine' wpAnyH_take (i := 4) (v := .pointer (some ⟨bb, off + i * 5, none⟩)) rfl (by kernel_rfl) (by kernel_rfl) (by kernel_rfl) (fun _ _ _ h => h) (Or.inl ⟨by kernel_rfl, fun W hW => ?y5⟩) hHeld ?r5
                  · go_simp
                  refine' wpAnyH_take (i := 5) (v := .pointer (some ⟨bb, off + i * 5, none⟩)) rfl (by kernel_rfl) (by kernel_rfl) (by kernel_rfl) (fun _ _ _ h => h) (Or.inl ⟨by kernel_rfl, fun W hW => ?y6⟩) hHeld ?r6
                  · go_simp
                  refine' wpAnyH_take (i := 6) (v := .int .u64 x.ad) rfl (by kernel_rfl) (by kernel_rfl) (by kernel_rfl) (fun _ _ _ h => h) (Or.inl ⟨by kernel_rfl, fun W hW => ?y7⟩) hHeld ?r7
                  · obtain ⟨q0, q1, q2⟩ := HCC.out W hW
                    go_simp
                  refine' wpAnyH_take (i := 7) (v := .pointer (some ⟨w.heap.size, 0, none⟩)) rfl (by kernel_rfl) (by kernel_rfl) (by kernel_rfl) (fun _ _ _ h => h) (Or.inl ⟨by kernel_rfl, fun W hW => ?y8⟩) hHeld ?r8
                  · go_simp
                  refine' wpAnyH_take (i := 8) (v := .slice (some ⟨bb, off, none⟩) n cap) rfl (by kernel_rfl) (by kernel_rfl) (by kernel_rfl) (fun _ _ _ h => h) (Or.inl ⟨by kernel_rfl, fun W hW => ?y9⟩) hHeld ?r9
                  · obtain ⟨q0, q1, q2⟩ := HCC.out W hW
                    go_simp
                  refine' wpAnyH_take (i := 9) (v := .int .i64 i) rfl (by kernel_rfl) (by kernel_rfl) (by kernel_rfl) (fun _ _ _ h => h) (Or.inl ⟨by kernel_rfl, fun W hW => ?y10⟩) hHeld ?r10
                  · go_simp
                  refine' wpAnyH_take (i := 10) (v := .pointer (some ⟨bb, off + i * 5, none⟩)) rfl (by kernel_rfl) (by kernel_rfl) (by kernel_rfl) (fun _ _ _ h => h) (Or.inl ⟨by kernel_rfl, fun W hW => ?y11⟩) hHeld ?r11
                  · go_simp
                  refine' wpAnyH_take (i := 11) (v := .pointer (some ⟨bb, off + i * 5 + 2, none⟩)) rfl (by kernel_rfl) (by kernel_rfl) (by kernel_rfl) (fun _ _ _ h => h) (Or.inl ⟨by kernel_rfl, fun W hW => ?y12⟩) hHeld ?r12
                  · go_simp
                  refine' wpAnyH_take (i := 12) (v := .int .u64 x.bond) rfl (by kernel_rfl) (by kernel_rfl) (by kernel_rfl) (fun _ _ _ h => h) (Or.inl ⟨by kernel_rfl, fun W hW => ?y13⟩) hHeld ?r13
                  · obtain ⟨q0, q1, q2⟩ := HCC.out W hW
                    go_simp
                  refine' wpAnyH_take (i := 13) (v := .agg #[.int .u64 x.ad, .int .u64 x.bond, .int .i64 0]) rfl (by kernel_rfl) (by kernel_rfl) (by kernel_rfl) (fun _ _ _ h => h) (Or.inl ⟨by kernel_rfl, fun W hW => ?y14⟩) hHeld ?r14
                  · go_simp
                  refine wpAnyH_ready (rs := [14]) (by kernel_rfl) (by simp) ?_
                  refine AllReadyH.cons rfl (fun K hK => ?_) AllReadyH.nil
                  go_simp
                  refine hK.out _ _ HTAA.out.of_no (fun hHeld => ?_)
                  clear hK
                  refine wpAnyH_ready (rs := [15]) (by kernel_rfl) (by simp) ?_
                  refine AllReadyH.cons rfl (fun K hK => ?_) AllReadyH.nil
                  rw [if_pos (by rfl)]
                  refine wp_append_run _ _ rfl _ _ rfl rfl HRUN.out ?_
                  refine hK.out _ _ HS5.out (fun hHeld => ?_)
                  clear hK
                  refine' wpAnyH_take (i := 16) (v := .slice a2 (fl.length + 1) cap2) rfl (by kernel_rfl) (by kernel_rfl) (by kernel_rfl) (fun _ _ _ h => h) (Or.inl ⟨by kernel_rfl, fun W hW => ?y15⟩) hHeld ?r15
                  · go_simp
                  refine wpAnyH_done (by kernel_rfl) ?_ _
                  go_simp
                  clear hHeld
                  go_wp2_with fail
                  go_roundw
                  case rel => exact ⟨i + 1, hi1.out, by go_num, ⟨_, _, _, rfl⟩, HN⟩
                  case measure => have := hi1.out; simp [intOf]; omega
              · obtain rfl : i = n := by omega
                have hlt' : ¬ (i : Int) < (i : Int) := by omega
                have HO : Shut (OwnN wr 55 3 (.slice va vn vc) SL.length (meC SL)) := by
                  have := HL.out.1
                  rw [List.take_of_length_le (by rw [hn.out]; exact Nat.le_refl _), List.take_of_length_le (by rw [HLEN.out]; exact Nat.le_refl _), HSEL.out] at this
                  exact this
                have HTW := shut hTw
                have HFZ := shut HL.out.2.1
                clear hAs hTw HL
                go_wp2_with fail
                go_ret
                exact ⟨_, rfl, SL, HSD.out, HO.out, (fun g hg => Nat.le_trans (Nat.le_of_lt HWE.out.1) (HFZ.out g hg)), HTW.out⟩
          · have HSJ : Shut (Tkn mb l (t.set j true) (k + 1)) := HI.out.2.2.1.more HAS.out hm htj hE (fun j' m' h1 h2 h3 h4 => hb j' m' (by have q1 := hn.out; have q2 := hin.out; omega) h2 h3 h4)
            have hR := HI.out.2.2.2.1.turn HJ.out.2 (fun q => q)
            have et := hR.cell j _ (tkA_at htj)
            have ef := hR.frozen j
            have hj0 : ¬ (j : Int) < 0 := by omega
            have hjn' : (j : Int) < (n : Int) := by have := hin.out; omega
            have R2 := hR.set j (.bool true)
            rw [tkA_set] at R2
            have HN : Shut (k + 1 ≤ 64 ∧ (0 < k + 1 → ((k + 1 : Nat) : Int) ≤ st) ∧ Tkn mb l (t.set j true) (k + 1) ∧ Row (wr.setCell ⟨gt, j, none⟩ (.bool true)) gt (tkA (t.set j true)) 4 ∧ Turn (fun q => q = gt) w1 (wr.setCell ⟨gt, j, none⟩ (.bool true))) := by
              have h1 := HKK.out
              exact ⟨by omega, fun _ => by omega, HSJ.out, R2, HTQ.out.setCell (p := ⟨gt, j, none⟩) (fun _ => rfl) _⟩
            have hk64 : (k : Int) < 64 := by have := HKK.out.1; omega
            clear hR R2 hb hE htj hm hAs hTw
            go_wp2_with fail
            go_roundw
            case rel => exact ⟨k + 1, _, by go_num, HN⟩
            case measure => have := HKK.out; simp [intOf]; omega
    · have HSD : Shut (Seated l (sel l t) mb st) := HI.out.2.2.1.seated HAS.out HI.out.1 HI.out.2.1 (Or.inl (by have := HI.out.1; omega))
      have HRE : Shut (Row wo gt (tkA t) 4) := HI.out.2.2.2.1
      have HTE : Shut (Turn (fun q => q = gt) w1 wo) := HI.out.2.2.2.2
      have HLEN : Shut (t.length = n) := by show _ = _; rw [HI.out.2.2.1.len, hn.out]
      obtain ⟨we, rfl⟩ : ∃ we : World, we = wo := ⟨_, rfl⟩
      have HWE : Shut (w.heap.size < we.heap.size ∧ ∀ bb, ∀ o : Nat, a = some ⟨bb, o, none⟩ → 0 < n → bb < we.heap.size) := HWX.out we HTE.out
      clear hAs hTw
      by_cases hc1 : (k : Int) < st
      · have hc2 : ¬ (k : Int) < 64 := by omega
        clear hc
        go_upto_region 15 with fail
        clear x0 x1 x2 hc1 hc2
        generalize hsel : sel l t = SL at *
        have HSEL := shut hsel
        clear hsel
        go_upto_region 16 with fail
        go_loopw [5, 11] (fun c d wq => ∃ i : Nat, i ≤ n ∧ d = .int .i64 i ∧ (∃ ra rn rc, c = .slice ra rn rc) ∧ Shut (OwnN wq 55 3 c (sel (l.take i) (t.take i)).length (meC (sel (l.take i) (t.take i))) ∧ (∀ g, c.ownBlock = some g → we.heap.size ≤ g) ∧ Turn no we wq)) (fun _ d _ => n - (intOf d).toNat)
        case atStart => exact ⟨0, by omega, rfl, ⟨_, _, _, rfl⟩, OwnN.nil _ 55 3, (fun g hg => by cases hg), Turn.refl _ _⟩
        case round =>
          obtain ⟨i, hi, rfl, ⟨va, vn, vc, rfl⟩, HL⟩ := hrel
          obtain ⟨x0, _, _, hAs, hTw⟩ := HX.out wr (HTE.out.then_no HL.out.2.2)
          by_cases hlt : i < n
          · obtain ⟨x, hx⟩ : ∃ x, l[i]? = some x := ⟨l[i]'(by rw [hn.out]; exact hlt), List.getElem?_eq_getElem _⟩
            obtain ⟨tb, htb⟩ : ∃ tb, t[i]? = some tb := ⟨t[i]'(by rw [HLEN.out]; exact hlt), List.getElem?_eq_getElem _⟩
            have hlt' : (i : Int) < (n : Int) := by omega
            have hi1 : Hid (i + 1 ≤ n) := hlt
            obtain ⟨bb, off, rfl, c0, c1, c2, c3, c4⟩ := hAs.cells i x hx
            have et := (HRE.out.turn HL.out.2.2 (fun q => q)).cell i _ (tkA_at htb)
            have HTS := shut (sel_take l t i x tb hx htb)
            have hle : (sel (l.take i) (t.take i)).length ≤ i := by
              have := sel_len (l.take i) (t.take i)
              rw [List.length_take] at this
              omega
            have HOW := shut HL.out.1
            have HFR := shut HL.out.2.1
            have HTL := shut HL.out.2.2
            have hbig : ((sel (l.take i) (t.take i)).length + 1) * 24 ≤ 140737488355328 := by omega
            have hmx : (sel (l.take i) (t.take i)).length + 1 ≤ maxLen := by simp only [maxLen]; omega
            clear hx htb hTw HL hAs
            generalize sel (l.take i) (t.take i) = fl at *
            cases tb with
            | false =>
              have HN : Shut (OwnN wr 55 3 (.slice va vn vc) (sel (l.take (i + 1)) (t.take (i + 1))).length (meC (sel (l.take (i + 1)) (t.take (i + 1)))) ∧ (∀ g, (Value.slice va vn vc).ownBlock = some g → we.heap.size ≤ g) ∧ Turn no we wr) := by
                have e := HTS.out
                rw [if_neg (by decide), List.append_nil] at e
                rw [e]
                exact ⟨HOW.out, HFR.out, HTL.out⟩
              clear c0 c1 c2 c3 c4
              go_wp2_with fail
              go_roundw
              case rel => exact ⟨i + 1, hi1.out, by go_num, ⟨_, _, _, rfl⟩, HN⟩
              case measure => have := hi1.out; simp [intOf]; omega
            | true =>
              have ta : Turn no wr (wr.drew.alloc (.cells #[.int .u64 x.ad, .int .u64 x.bond, .int .i64 0] 55)) := ((Turn.refl no wr).drew).alloc _
              obtain ⟨v2, w5, hr, O2, G2⟩ := run_append_srcN (P := Tryz.prog) Tryz.underlying37 info37 rfl (by decide) 37 _ (.slice va vn vc) fl.length (meC fl) (HOW.out.turn_no ta) _ 1 (meC [x]) (src_mem wr.drew x) hbig hmx
              obtain ⟨a2, cap2, e2, _⟩ := id O2.form
              subst e2
              have T5 : Turn no we w5 := (HTL.out.then_no ta).fresh G2 HFR.out
              have S5 : Turn (fun k => (Value.slice va vn vc).ownBlock = some k) wr w5 := ta.of_no.trans G2.turn (fun _ _ q => q)
              have HN : Shut (OwnN w5 55 3 (.slice a2 (fl.length + 1) cap2) (sel (l.take (i + 1)) (t.take (i + 1))).length (meC (sel (l.take (i + 1)) (t.take (i + 1)))) ∧ (∀ g, (Value.slice a2 (fl.length + 1) cap2).ownBlock = some g → we.heap.size ≤ g) ∧ Turn no we w5) := by
                have e := HTS.out
                rw [if_pos rfl] at e
                rw [e, List.length_append, meC_append]
                exact ⟨O2, G2.fresh HFR.out (by have := HTL.out.size; have := ta.size; omega), T5⟩
              have HS5 := shut S5
              have HRUN := shut hr
              have HTAA := shut ta
              have HCC : Shut (∀ W, Turn (fun k => (Value.slice va vn vc).ownBlock = some k) wr W → W.cell? ⟨w.heap.size, 0, none⟩ = some (.slice (some ⟨bb, off, none⟩) n cap) ∧ W.cell? ⟨bb, off + i * 5, none⟩ = some (.int .u64 x.ad) ∧ W.cell? ⟨bb, off + i * 5 + 2, none⟩ = some (.int .u64 x.bond)) := fun W t => by
                have hns : ∀ g v o, wr.cell? ⟨g, o, none⟩ = some v → g < we.heap.size → ¬ (Value.slice va vn vc).ownBlock = some g := fun g v o _ hg q => by have := HFR.out g q; omega
                exact ⟨t.keep x0 (hns _ _ _ x0 (by have := HWE.out.1; omega)), t.keep c0 (hns _ _ _ c0 (HWE.out.2 bb off rfl (by omega))), t.keep c2 (hns _ _ _ c2 (HWE.out.2 bb off rfl (by omega)))⟩
              clear O2 G2 T5 S5 hr ta hbig hmx
              go_upto_region 19 with fail
              clear c0 c1 c2 c3 c4 x0 et
              refine wp_region_held_drew (S := fun W => Turn (fun k => (Value.slice va vn vc).ownBlock = some k) wr W) (by kernel_rfl) (Turn.refl _ wr).drew (fun hHeld => ?_)
              refine' wpAnyH_take (i := 0) (v := .slice va vn vc) rfl (by kernel_rfl) (by kernel_rfl) (by kernel_rfl) (fun _ _ _ h => h) (Or.inl ⟨by kernel_rfl, fun W hW => ?y16⟩) hHeld ?r16
              · go_simp
              refine' wpAnyH_take (i := 1) (v := .pointer (some ⟨w.heap.size, 0, none⟩)) rfl (by kernel_rfl) (by kernel_rfl) (by kernel_rfl) (fun _ _ _ h => h) (Or.inl ⟨by kernel_rfl, fun W hW => ?y17⟩) hHeld ?r17
              · go_simp
              refine' wpAnyH_take (i := 2) (v := .slice (some ⟨bb, off, none⟩) n cap) rfl (by kernel_rfl) (by kernel_rfl) (by kernel_rfl) (fun _ _ _ h => h) (Or.inl ⟨by kernel_rfl, fun W hW => ?y18⟩) hHeld ?r18
              · obtain ⟨q0, q1, q2⟩ := HCC.out W hW
                go_simp
              refine' wpAnyH_take (i := 3) (v := .int .i64 i) rfl (by kernel_rfl) (by kernel_rfl) (by kernel_rfl) (fun _ _ _ h => h) (Or.inl ⟨by kernel_rfl, fun W hW => ?y19⟩) hHeld ?r19
              · go_simp
              refine' wpAnyH_take (i := 4) (v := .pointer (some ⟨bb, off + i * 5, none⟩)) rfl (by kernel_rfl) (by kernel_rfl) (by kernel_rfl) (fun _ _ _ h => h) (Or.inl ⟨by kernel_rfl, fun W hW => ?y20⟩) hHeld ?r20
              · go_simp
              refine' wpAnyH_take (i := 5) (v := .pointer (some ⟨bb, off + i * 5, none⟩)) rfl (by kernel_rfl) (by kernel_rfl) (by kernel_rfl) (fun _ _ _ h => h) (Or.inl ⟨by kernel_rfl, fun W hW => ?y21⟩) hHeld ?r21
              · go_simp
              refine' wpAnyH_take (i := 6) (v := .int .u64 x.ad) rfl (by kernel_rfl) (by kernel_rfl) (by kernel_rfl) (fun _ _ _ h => h) (Or.inl ⟨by kernel_rfl, fun W hW => ?y22⟩) hHeld ?r22
              · obtain ⟨q0, q1, q2⟩ := HCC.out W hW
                go_simp
              refine' wpAnyH_take (i := 7) (v := .pointer (some ⟨w.heap.size, 0, none⟩)) rfl (by kernel_rfl) (by kernel_rfl) (by kernel_rfl) (fun _ _ _ h => h) (Or.inl ⟨by kernel_rfl, fun W hW => ?y23⟩) hHeld ?r23
              · go_simp
              refine' wpAnyH_take (i := 8) (v := .slice (some ⟨bb, off, none⟩) n cap) rfl (by kernel_rfl) (by kernel_rfl) (by kernel_rfl) (fun _ _ _ h => h) (Or.inl ⟨by kernel_rfl, fun W hW => ?y24⟩) hHeld ?r24
              · obtain ⟨q0, q1, q2⟩ := HCC.out W hW
                go_simp
              refine' wpAnyH_take (i := 9) (v := .int .i64 i) rfl (by kernel_rfl) (by kernel_rfl) (by kernel_rfl) (fun _ _ _ h => h) (Or.inl ⟨by kernel_rfl, fun W hW => ?y25⟩) hHeld ?r25
              · go_simp
              refine' wpAnyH_take (i := 10) (v := .pointer (some ⟨bb, off + i * 5, none⟩)) rfl (by kernel_rfl) (by kernel_rfl) (by kernel_rfl) (fun _ _ _ h => h) (Or.inl ⟨by kernel_rfl, fun W hW => ?y26⟩) hHeld ?r26
              · go_simp
              refine' wpAnyH_take (i := 11) (v := .pointer (some ⟨bb, off + i * 5 + 2, none⟩)) rfl (by kernel_rfl) (by kernel_rfl) (by kernel_rfl) (fun _ _ _ h => h) (Or.inl ⟨by kernel_rfl, fun W hW => ?y27⟩) hHeld ?r27
              · go_simp
              refine' wpAnyH_take (i := 12) (v := .int .u64 x.bond) rfl (by kernel_rfl) (by kernel_rfl) (by kernel_rfl) (fun _ _ _ h => h) (Or.inl ⟨by kernel_rfl, fun W hW => ?y28⟩) hHeld ?r28
              · obtain ⟨q0, q1, q2⟩ := HCC.out W hW
                go_simp
              refine' wpAnyH_take (i := 13) (v := .agg #[.int .u64 x.ad, .int .u64 x.bond, .int .i64 0]) rfl (by kernel_rfl) (by kernel_rfl) (by kernel_rfl) (fun _ _ _ h => h) (Or.inl ⟨by kernel_rfl, fun W hW => ?y29⟩) hHeld ?r29
              · go_simp
              refine wpAnyH_ready (rs := [14]) (by kernel_rfl) (by simp) ?_
              refine AllReadyH.cons rfl (fun K hK => ?_) AllReadyH.nil
              go_simp
              refine hK.out _ _ HTAA.out.of_no (fun hHeld => ?_)
              clear hK
              refine wpAnyH_ready (rs := [15]) (by kernel_rfl) (by simp) ?_
              refine AllReadyH.cons rfl (fun K hK => ?_) AllReadyH.nil
              rw [if_pos (by rfl)]
              refine wp_append_run _ _ rfl _ _ rfl rfl HRUN.out ?_
              refine hK.out _ _ HS5.out (fun hHeld => ?_)
              clear hK
              refine' wpAnyH_take (i := 16) (v := .slice a2 (fl.length + 1) cap2) rfl (by kernel_rfl) (by kernel_rfl) (by kernel_rfl) (fun _ _ _ h => h) (Or.inl ⟨by kernel_rfl, fun W hW => ?y30⟩) hHeld ?r30
              · go_simp
              refine wpAnyH_done (by kernel_rfl) ?_ _
              go_simp
              clear hHeld
              go_wp2_with fail
              go_roundw
              case rel => exact ⟨i + 1, hi1.out, by go_num, ⟨_, _, _, rfl⟩, HN⟩
              case measure => have := hi1.out; simp [intOf]; omega
          · obtain rfl : i = n := by omega
            have hlt' : ¬ (i : Int) < (i : Int) := by omega
            have HO : Shut (OwnN wr 55 3 (.slice va vn vc) SL.length (meC SL)) := by
              have := HL.out.1
              rw [List.take_of_length_le (by rw [hn.out]; exact Nat.le_refl _), List.take_of_length_le (by rw [HLEN.out]; exact Nat.le_refl _), HSEL.out] at this
              exact this
            have HTW := shut hTw
            have HFZ := shut HL.out.2.1
            clear hAs hTw HL
            go_wp2_with fail
            go_ret
            exact ⟨_, rfl, SL, HSD.out, HO.out, (fun g hg => Nat.le_trans (Nat.le_of_lt HWE.out.1) (HFZ.out g hg)), HTW.out⟩
      · clear hc
        go_upto_region 15 with fail
        clear x0 x1 x2 hc1
        generalize hsel : sel l t = SL at *
        have HSEL := shut hsel
        clear hsel
        go_upto_region 16 with fail
        go_loopw [5, 11] (fun c d wq => ∃ i : Nat, i ≤ n ∧ d = .int .i64 i ∧ (∃ ra rn rc, c = .slice ra rn rc) ∧ Shut (OwnN wq 55 3 c (sel (l.take i) (t.take i)).length (meC (sel (l.take i) (t.take i))) ∧ (∀ g, c.ownBlock = some g → we.heap.size ≤ g) ∧ Turn no we wq)) (fun _ d _ => n - (intOf d).toNat)
        case atStart => exact ⟨0, by omega, rfl, ⟨_, _, _, rfl⟩, OwnN.nil _ 55 3, (fun g hg => by cases hg), Turn.refl _ _⟩
        case round =>
          obtain ⟨i, hi, rfl, ⟨va, vn, vc, rfl⟩, HL⟩ := hrel
          obtain ⟨x0, _, _, hAs, hTw⟩ := HX.out wr (HTE.out.then_no HL.out.2.2)
          by_cases hlt : i < n
          · obtain ⟨x, hx⟩ : ∃ x, l[i]? = some x := ⟨l[i]'(by rw [hn.out]; exact hlt), List.getElem?_eq_getElem _⟩
            obtain ⟨tb, htb⟩ : ∃ tb, t[i]? = some tb := ⟨t[i]'(by rw [HLEN.out]; exact hlt), List.getElem?_eq_getElem _⟩
            have hlt' : (i : Int) < (n : Int) := by omega
            have hi1 : Hid (i + 1 ≤ n) := hlt
            obtain ⟨bb, off, rfl, c0, c1, c2, c3, c4⟩ := hAs.cells i x hx
            have et := (HRE.out.turn HL.out.2.2 (fun q => q)).cell i _ (tkA_at htb)
            have HTS := shut (sel_take l t i x tb hx htb)
            have hle : (sel (l.take i) (t.take i)).length ≤ i := by
              have := sel_len (l.take i) (t.take i)
              rw [List.length_take] at this
              omega
            have HOW := shut HL.out.1
            have HFR := shut HL.out.2.1
            have HTL := shut HL.out.2.2
            have hbig : ((sel (l.take i) (t.take i)).length + 1) * 24 ≤ 140737488355328 := by omega
            have hmx : (sel (l.take i) (t.take i)).length + 1 ≤ maxLen := by simp only [maxLen]; omega
            clear hx htb hTw HL hAs
            generalize sel (l.take i) (t.take i) = fl at *
            cases tb with
            | false =>
              have HN : Shut (OwnN wr 55 3 (.slice va vn vc) (sel (l.take (i + 1)) (t.take (i + 1))).length (meC (sel (l.take (i + 1)) (t.take (i + 1)))) ∧ (∀ g, (Value.slice va vn vc).ownBlock = some g → we.heap.size ≤ g) ∧ Turn no we wr) := by
                have e := HTS.out
                rw [if_neg (by decide), List.append_nil] at e
                rw [e]
                exact ⟨HOW.out, HFR.out, HTL.out⟩
              clear c0 c1 c2 c3 c4
              go_wp2_with fail
              go_roundw
              case rel => exact ⟨i + 1, hi1.out, by go_num, ⟨_, _, _, rfl⟩, HN⟩
              case measure => have := hi1.out; simp [intOf]; omega
            | true =>
              have ta : Turn no wr (wr.drew.alloc (.cells #[.int .u64 x.ad, .int .u64 x.bond, .int .i64 0] 55)) := ((Turn.refl no wr).drew).alloc _
              obtain ⟨v2, w5, hr, O2, G2⟩ := run_append_srcN (P := Tryz.prog) Tryz.underlying37 info37 rfl (by decide) 37 _ (.slice va vn vc) fl.length (meC fl) (HOW.out.turn_no ta) _ 1 (meC [x]) (src_mem wr.drew x) hbig hmx
              obtain ⟨a2, cap2, e2, _⟩ := id O2.form
              subst e2
              have T5 : Turn no we w5 := (HTL.out.then_no ta).fresh G2 HFR.out
              have S5 : Turn (fun k => (Value.slice va vn vc).ownBlock = some k) wr w5 := ta.of_no.trans G2.turn (fun _ _ q => q)
              have HN : Shut (OwnN w5 55 3 (.slice a2 (fl.length + 1) cap2) (sel (l.take (i + 1)) (t.take (i + 1))).length (meC (sel (l.take (i + 1)) (t.take (i + 1)))) ∧ (∀ g, (Value.slice a2 (fl.length + 1) cap2).ownBlock = some g → we.heap.size ≤ g) ∧ Turn no we w5) := by
                have e := HTS.out
                rw [if_pos rfl] at e
                rw [e, List.length_append, meC_append]
                exact ⟨O2, G2.fresh HFR.out (by have := HTL.out.size; have := ta.size; omega), T5⟩
              have HS5 := shut S5
              have HRUN := shut hr
              have HTAA := shut ta
              have HCC : Shut (∀ W, Turn (fun k => (Value.slice va vn vc).ownBlock = some k) wr W → W.cell? ⟨w.heap.size, 0, none⟩ = some (.slice (some ⟨bb, off, none⟩) n cap) ∧ W.cell? ⟨bb, off + i * 5, none⟩ = some (.int .u64 x.ad) ∧ W.cell? ⟨bb, off + i * 5 + 2, none⟩ = some (.int .u64 x.bond)) := fun W t => by
                have hns : ∀ g v o, wr.cell? ⟨g, o, none⟩ = some v → g < we.heap.size → ¬ (Value.slice va vn vc).ownBlock = some g := fun g v o _ hg q => by have := HFR.out g q; omega
                exact ⟨t.keep x0 (hns _ _ _ x0 (by have := HWE.out.1; omega)), t.keep c0 (hns _ _ _ c0 (HWE.out.2 bb off rfl (by omega))), t.keep c2 (hns _ _ _ c2 (HWE.out.2 bb off rfl (by omega)))⟩
              clear O2 G2 T5 S5 hr ta hbig hmx
              go_upto_region 19 with fail
              clear c0 c1 c2 c3 c4 x0 et
              refine wp_region_held_drew (S := fun W => Turn (fun k => (Value.slice va vn vc).ownBlock = some k) wr W) (by kernel_rfl) (Turn.refl _ wr).drew (fun hHeld => ?_)
              refine' wpAnyH_take (i := 0) (v := .slice va vn vc) rfl (by kernel_rfl) (by kernel_rfl) (by kernel_rfl) (fun _ _ _ h => h) (Or.inl ⟨by kernel_rfl, fun W hW => ?y31⟩) hHeld ?r31
              · go_simp
              refine' wpAnyH_take (i := 1) (v := .pointer (some ⟨w.heap.size, 0, none⟩)) rfl (by kernel_rfl) (by kernel_rfl) (by kernel_rfl) (fun _ _ _ h => h) (Or.inl ⟨by kernel_rfl, fun W hW => ?y32⟩) hHeld ?r32
              · go_simp
              refine' wpAnyH_take (i := 2) (v := .slice (some ⟨bb, off, none⟩) n cap) rfl (by kernel_rfl) (by kernel_rfl) (by kernel_rfl) (fun _ _ _ h => h) (Or.inl ⟨by kernel_rfl, fun W hW => ?y33⟩) hHeld ?r33
              · obtain ⟨q0, q1, q2⟩ := HCC.out W hW
                go_simp
              refine' wpAnyH_take (i := 3) (v := .int .i64 i) rfl (by kernel_rfl) (by kernel_rfl) (by kernel_rfl) (fun _ _ _ h => h) (Or.inl ⟨by kernel_rfl, fun W hW => ?y34⟩) hHeld ?r34
              · go_simp
              refine' wpAnyH_take (i := 4) (v := .pointer (some ⟨bb, off + i * 5, none⟩)) rfl (by kernel_rfl) (by kernel_rfl) (by kernel_rfl) (fun _ _ _ h => h) (Or.inl ⟨by kernel_rfl, fun W hW => ?y35⟩) hHeld ?r35
              · go_simp
              refine' wpAnyH_take (i := 5) (v := .pointer (some ⟨bb, off + i * 5, none⟩)) rfl (by kernel_rfl) (by kernel_rfl) (by kernel_rfl) (fun _ _ _ h => h) (Or.inl ⟨by kernel_rfl, fun W hW => ?y36⟩) hHeld ?r36
              · go_simp
              refine' wpAnyH_take (i := 6) (v := .int .u64 x.ad) rfl (by kernel_rfl) (by kernel_rfl) (by kernel_rfl) (fun _ _ _ h => h) (Or.inl ⟨by kernel_rfl, fun W hW => ?y37⟩) hHeld ?r37
              · obtain ⟨q0, q1, q2⟩ := HCC.out W hW
                go_simp
              refine' wpAnyH_take (i := 7) (v := .pointer (some ⟨w.heap.size, 0, none⟩)) rfl (by kernel_rfl) (by kernel_rfl) (by kernel_rfl) (fun _ _ _ h => h) (Or.inl ⟨by kernel_rfl, fun W hW => ?y38⟩) hHeld ?r38
              · go_simp
              refine' wpAnyH_take (i := 8) (v := .slice (some ⟨bb, off, none⟩) n cap) rfl (by kernel_rfl) (by kernel_rfl) (by kernel_rfl) (fun _ _ _ h => h) (Or.inl ⟨by kernel_rfl, fun W hW => ?y39⟩) hHeld ?r39
              · obtain ⟨q0, q1, q2⟩ := HCC.out W hW
                go_simp
              refine' wpAnyH_take (i := 9) (v := .int .i64 i) rfl (by kernel_rfl) (by kernel_rfl) (by kernel_rfl) (fun _ _ _ h => h) (Or.inl ⟨by kernel_rfl, fun W hW => ?y40⟩) hHeld ?r40
              · go_simp
              refine' wpAnyH_take (i := 10) (v := .pointer (some ⟨bb, off + i * 5, none⟩)) rfl (by kernel_rfl) (by kernel_rfl) (by kernel_rfl) (fun _ _ _ h => h) (Or.inl ⟨by kernel_rfl, fun W hW => ?y41⟩) hHeld ?r41
              · go_simp
              refine' wpAnyH_take (i := 11) (v := .pointer (some ⟨bb, off + i * 5 + 2, none⟩)) rfl (by kernel_rfl) (by kernel_rfl) (by kernel_rfl) (fun _ _ _ h => h) (Or.inl ⟨by kernel_rfl, fun W hW => ?y42⟩) hHeld ?r42
              · go_simp
              refine' wpAnyH_take (i := 12) (v := .int .u64 x.bond) rfl (by kernel_rfl) (by kernel_rfl) (by kernel_rfl) (fun _ _ _ h => h) (Or.inl ⟨by kernel_rfl, fun W hW => ?y43⟩) hHeld ?r43
              · obtain ⟨q0, q1, q2⟩ := HCC.out W hW
                go_simp
              refine' wpAnyH_take (i := 13) (v := .agg #[.int .u64 x.ad, .int .u64 x.bond, .int .i64 0]) rfl (by kernel_rfl) (by kernel_rfl) (by kernel_rfl) (fun _ _ _ h => h) (Or.inl ⟨by kernel_rfl, fun W hW => ?y44⟩) hHeld ?r44
              · go_simp
              refine wpAnyH_ready (rs := [14]) (by kernel_rfl) (by simp) ?_
              refine AllReadyH.cons rfl (fun K hK => ?_) AllReadyH.nil
              go_simp
              refine hK.out _ _ HTAA.out.of_no (fun hHeld => ?_)
              clear hK
              refine wpAnyH_ready (rs := [15]) (by kernel_rfl) (by simp) ?_
              refine AllReadyH.cons rfl (fun K hK => ?_) AllReadyH.nil
              rw [if_pos (by rfl)]
              refine wp_append_run _ _ rfl _ _ rfl rfl HRUN.out ?_
              refine hK.out _ _ HS5.out (fun hHeld => ?_)
              clear hK
              refine' wpAnyH_take (i := 16) (v := .slice a2 (fl.length + 1) cap2) rfl (by kernel_rfl) (by kernel_rfl) (by kernel_rfl) (fun _ _ _ h => h) (Or.inl ⟨by kernel_rfl, fun W hW => ?y45⟩) hHeld ?r45
              · go_simp
              refine wpAnyH_done (by kernel_rfl) ?_ _
              go_simp
              clear hHeld
              go_wp2_with fail
              go_roundw
              case rel => exact ⟨i + 1, hi1.out, by go_num, ⟨_, _, _, rfl⟩, HN⟩
              case measure => have := hi1.out; simp [intOf]; omega
          · obtain rfl : i = n := by omega
            have hlt' : ¬ (i : Int) < (i : Int) := by omega
            have HO : Shut (OwnN wr 55 3 (.slice va vn vc) SL.length (meC SL)) := by
              have := HL.out.1
              rw [List.take_of_length_le (by rw [hn.out]; exact Nat.le_refl _), List.take_of_length_le (by rw [HLEN.out]; exact Nat.le_refl _), HSEL.out] at this
              exact this
            have HTW := shut hTw
            have HFZ := shut HL.out.2.1
            clear hAs hTw HL
            go_wp2_with fail
            go_ret
            exact ⟨_, rfl, SL, HSD.out, HO.out, (fun g hg => Nat.le_trans (Nat.le_of_lt HWE.out.1) (HFZ.out g hg)), HTW.out⟩
end Go.Proofs.YtaoigopjfelgpaaGreatDoor
