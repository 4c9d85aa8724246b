/- Z1, Z2 in one. -/
import Derived.Test.YtcdogciacchigacHh
import Derived.Test.YtcdogciacchigacYy
import Derived.Test.YtcdogciacchigacS0
-- DiskMakes: the walk.
namespace Go.Proofs.Ytcdogciacchigac
open Go.RowKit Go.Maps
set_option linter.unusedVariables false

theorem made32_any {B : Nat} (w : World) (m : Mx) (a : Option Addr) (cap : Nat) (hF : Fs B w a cap m.l) (hBw : B ≤ w.heap.size) (hl : m.l.length ≤ 3518437208780) (hb : ∀ f ∈ m.l, f.bs.length ≤ 140737488351232) : Calls Try.prog 7 #[.agg (mxC m a cap)] w (Md w) := by
  cases hmt : m.mt with
  | false => exact made32_new w m a cap hmt
  | true =>
    cases hok : mOk m.lim m.l with
    | false => exact made32_bad w m a cap hmt hok hF hBw hl hb
    | true => exact made32_ok w m a cap hmt hok hF hBw hl hb
theorem ox_nil {B : Nat} {w : World} (k : Int) (nm : Nm) (hn : nm.length ≤ maxLen) : Ox B w ⟨k, 0, nm, .slice none 0 0, [], 0, ⟨0, 0, false⟩, .slice none 0 0, [], 0⟩ :=
  ⟨hn, Or.inl ⟨rfl, rfl⟩, Or.inl ⟨rfl, rfl⟩, fun h => absurd rfl h, fun h => absurd rfl h⟩
end Go.Proofs.Ytcdogciacchigac

-- DiskWrites, DiskReads, DiskTells: play.
namespace Go.Proofs.Ytcdogciacchigac
open Go.RowKit Go.Maps
set_option linter.unusedVariables false

theorem Ox.mono {B B' : Nat} {w : World} {o : Opx} (h : Ox B w o) (hB : B ≤ B') : Ox B' w o := ⟨h.nm, h.data, h.keep, fun a g hg => Nat.lt_of_lt_of_le (h.dold a g hg) hB, fun a g hg => Nat.lt_of_lt_of_le (h.kold a g hg) hB⟩
theorem Sc.mono {B B' : Nat} {w : World} {v : Value} {l : List Opx} (h : Sc B w v l) (hB : B ≤ B') : Sc B' w v l := by
  obtain ⟨a, cap, e, h1, h2, h3, h4⟩ := h
  refine ⟨a, cap, e, h1, h2, fun o ho => (h3 o ho).mono hB, fun j o hj => ?_⟩
  obtain ⟨b, off, ea, hb, hc⟩ := h4 j o hj
  exact ⟨b, off, ea, by omega, hc⟩
set_option maxRecDepth 100000 in
set_option maxHeartbeats 16000000 in
theorem play36 {B0 : Nat} (w : World) (hB0 : B0 ≤ w.heap.size) (m : Mx) (a : Option Addr) (cap : Nat) (hF : Fs B0 w a cap m.l) (hl : m.l.length ≤ 3518437208780) (hb : ∀ f ∈ m.l, f.bs.length ≤ 140737488351232) (sv : Value) (l : List Opx) (hS : Sc B0 w sv l) (hsl : l.length ≤ 1172812402926) (hdl : ∀ o ∈ l, o.data.length ≤ 140737488351232 ∧ o.keep.length ≤ 17592186043904) (lo hi : Int) :
    Calls Try.prog 6 #[.agg (mxC m a cap), sv, .int .i64 lo, .int .i64 hi] w fun e w' => e = .returned (.bool true) ∧ Turn no w w' := by
  obtain ⟨lim, mt, fl⟩ := m
  simp only at hF hl hb
  obtain ⟨sa, sc, rfl, hsl'⟩ := Sc.slice hS
  obtain ⟨w1, hw1⟩ : ∃ w1, w.alloc (.cells #[.int .i64 lim, .bool mt, .slice a fl.length cap] 26) = w1 := ⟨_, rfl⟩
  have T1 : Turn no w w1 := by rw [← hw1]; exact (Turn.refl no w).alloc _
  have s1 : w1.heap.size = w.heap.size + 1 := by rw [← hw1]; simp
  have r1 : Row w1 w.heap.size #[.int .i64 lim, .bool mt, .slice a fl.length cap] 26 := by rw [← hw1]; exact Row.new w _ 26
  have hmd := made32_any w1 ⟨lim, mt, fl⟩ a cap (hF.turn_no T1) (by omega) hl hb
  have x0 := r1.cell 0 _ rfl
  have x1 := r1.cell 1 _ rfl
  have x2 := r1.cell 2 _ rfl
  have HSC := shut (Sc.mono (Sc.turn hS (T1.of_no)) (show B0 ≤ w1.heap.size by omega))
  have HT1 := shut T1
  have HS1 := shut s1
  have HDL := shut hdl
  clear hF hb r1 T1 s1 hl hS hdl hB0
  unfold mxC at *
  simp only at *
  go_enter Try.func6, Try.ntmps6
  go_wp2_with fail
  try rw [hw1]
  refine hmd.mono ?_
  clear hmd
  rintro e w2 ⟨t2, hh⟩
  have HT2 := shut t2
  clear t2 x0 x1 x2
  rcases hh with ⟨p, q, s, rfl, hP, hn, hm, hoff⟩ | rfl
  · obtain ⟨w3, hw3⟩ : ∃ w3, w2.alloc (.cells #[.pointer (some ⟨p, 0, none⟩), .pointer (some ⟨q, 0, none⟩)] 33) = w3 := ⟨_, rfl⟩
    have T3 : Turn no w2 w3 := by rw [← hw3]; exact (Turn.refl no w2).alloc _
    obtain ⟨g3, hg3⟩ : ∃ g3, w2.heap.size = g3 := ⟨_, rfl⟩
    have r3 : Row w3 g3 #[.pointer (some ⟨p, 0, none⟩), .pointer (some ⟨q, 0, none⟩)] 33 := by rw [← hw3]; exact Row.newAt _ _ _ _ hg3.symm
    have y1 := r3.cell 1 _ rfl
    obtain ⟨Y, hY⟩ : ∃ Y : Nat → Prop, Y = (fun k => k = g3) := ⟨_, rfl⟩
    have hPY : Pr w1.heap.size Y w2 p q s s := hP.avoid (fun k e => by rw [hY] at e; exact Or.inr (by omega))
    obtain ⟨B, hB⟩ : ∃ B, w1.heap.size = B := ⟨_, rfl⟩
    rw [hB] at hPY HSC
    have HP3 := shut (hPY.turn_no T3)
    have HYY := shut hY
    have HR3 := shut r3
    have HT3 := shut T3
    have HSC3 := shut (Sc.turn (Sc.turn HSC.out (HT2.out.of_no)) (T3.of_no))
    have HB3 : Shut (B ≤ w3.heap.size ∧ g3 < w3.heap.size ∧ w.heap.size < B) := by
      have e1 := HT2.out.size
      have e2 := T3.size
      have e3 : g3 < w3.heap.size := lt_of_obj r3
      have e4 := HS1.out
      exact ⟨by omega, by omega, by omega⟩
    have HNM : Shut (s.n ≤ 0 ∧ s.m ≤ 0) := ⟨by omega, by omega⟩
    clear hP hPY hY T3 r3 hn hm hoff hB HSC
    unfold ptr
    go_wp2_with fail
    go_loopw [10, 11] (fun x y wr => ∃ (i : Nat) (s : St), i ≤ l.length ∧ x = .bool true ∧ y = .int .i64 i ∧ Shut (Pr B Y wr p q s s) ∧ Shut (s.n ≤ i ∧ s.m ≤ i) ∧ Shut (Turn (out B Y) w3 wr)) (fun _ y _ => l.length - (intOf y).toNat)
    case atStart => exact ⟨0, s, Nat.zero_le _, rfl, rfl, HP3, HNM, Turn.refl _ _⟩
    case round =>
      obtain ⟨i, s', hi, rfl, rfl, HPR, HNM', HT⟩ := hrel
      by_cases hlt : i < l.length
      · have hlt' : (i : Int) < (l.length : Int) := by omega
        obtain ⟨o, ho⟩ : ∃ o, l[i]? = some o := ⟨l[i], List.getElem?_eq_getElem hlt⟩
        obtain ⟨b, off, va, vn, vc, ka, kn, kc, ea, hbB, hO, hA⟩ := Sc.at (Sc.turn HSC3.out (HT.out.mono (fun k _ e => e.1))) i o ho
        subst ea
        obtain ⟨ev, ek, d0, d1, d2, d3, d4, d5, d6, d7, d8, d9⟩ := hA
        have rg := HR3.out.turn HT.out (fun e => e.2 (by rw [HYY.out]))
        obtain ⟨wo, hwo⟩ : ∃ wo, wr.alloc (.cells #[.int .i64 o.kind, .int .i64 o.who, .string ⟨o.nm.toArray⟩, .slice va vn vc, .int .i64 o.n, .int .i64 o.t.when, .int .i64 o.t.kind, .bool o.t.done, .slice ka kn kc, .int .u8 o.junk.toNat] 41) = wo := ⟨_, rfl⟩
        have TO : Turn no wr wo := by rw [← hwo]; exact (Turn.refl no wr).alloc _
        have ro : Row wo wr.heap.size #[.int .i64 o.kind, .int .i64 o.who, .string ⟨o.nm.toArray⟩, .slice va vn vc, .int .i64 o.n, .int .i64 o.t.when, .int .i64 o.t.kind, .bool o.t.done, .slice ka kn kc, .int .u8 o.junk.toNat] 41 := by rw [← hwo]; exact Row.new wr _ 41
        have eo : opC o = #[.int .i64 o.kind, .int .i64 o.who, .string ⟨o.nm.toArray⟩, .slice va vn vc, .int .i64 o.n, .int .i64 o.t.when, .int .i64 o.t.kind, .bool o.t.done, .slice ka kn kc, .int .u8 o.junk.toNat] := by
          unfold opC strV
          rw [ev, ek]
        have ho2 := HDL.out o (List.mem_of_getElem? ho)
        have hst := step_any (HPR.out.turn_no TO) (by have := HB3.out; have := HT.out.size; have := TO.size; omega) (fun k e => by rw [HYY.out] at e; have := HB3.out; have := HT.out.size; have := TO.size; omega) (by have := HNM'.out; omega) (by have := HNM'.out; omega) o (hO.turn_no TO) ho2.1 ho2.2
        rw [eo] at hst
        obtain ⟨bn, bm⟩ := st_bounds s' o
        have HNN : Shut ((stS s' o).n ≤ i + 1 ∧ (stS s' o).m ≤ i + 1) := ⟨by have := HNM'.out; omega, by have := HNM'.out; omega⟩
        generalize hsx : stS s' o = s'' at *
        have ga := rg.turn TO (fun e => e)
        have g0 := ga.cell 0 _ rfl
        have g1 := ga.cell 1 _ rfl
        obtain ⟨go', hgo⟩ : ∃ go', wr.heap.size = go' := ⟨_, rfl⟩
        rw [hgo] at ro
        have o0 := ro.cell 0 _ rfl
        have o1 := ro.cell 1 _ rfl
        have o2 := ro.cell 2 _ rfl
        have o3 := ro.cell 3 _ rfl
        have o4 := ro.cell 4 _ rfl
        have o5 := ro.cell 5 _ rfl
        have o6 := ro.cell 6 _ rfl
        have o7 := ro.cell 7 _ rfl
        have o8 := ro.cell 8 _ rfl
        have o9 := ro.cell 9 _ rfl
        have HTO := shut TO
        have HEV := shut ev
        have HEK := shut ek
        clear hO TO eo ho2 bn bm hsx rg ga ro ho ev ek hbB
        unfold ptr at *
        go_wp2_with fail
        refine hst.mono ?_
        clear hst
        rintro e w' ⟨rfl, hP', t'⟩
        have HP' := shut hP'
        have HT' : Shut (Turn (out B Y) w3 w') := (HT.out.then_no HTO.out).trans t' (fun k _ e => e)
        clear hP' t' o0 o1 o2 o3 o4 o5 o6 o7 o8 o9 g0 g1 d0 d1 d2 d3 d4 d5 d6 d7 d8 d9
        go_wp2_with fail
        go_roundw
        case rel => exact ⟨i + 1, s'', by omega, rfl, by go_num, HP', HNN, HT'⟩
        case measure => simp [intOf]; omega
      · have hlt' : ¬ (i : Int) < (l.length : Int) := by omega
        have FIN : Shut (Turn no w wr) := ((HT1.out.then_no HT2.out).then_no HT3.out).trans HT.out (fun k hk e => by have := e.1; have := HB3.out; omega)
        go_wp2_with fail
        go_ret
        exact ⟨rfl, FIN.out⟩
  · have FIN : Shut (Turn no w (w2.alloc (.cells #[.pointer none, .pointer none] 33))) := (HT1.out.then_no HT2.out).alloc _
    go_wp2_with fail
    go_ret
    exact ⟨rfl, FIN.out⟩
end Go.Proofs.Ytcdogciacchigac
