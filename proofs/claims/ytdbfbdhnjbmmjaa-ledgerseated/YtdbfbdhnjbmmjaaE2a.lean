/- LedgerSeated: the walk, its first loop. -/
import Derived.Test.YtdbfbdhnjbmmjaaE1
import Derived.BigQuiet
import Derived.Deep.RegionHeld3
namespace Go.Proofs.Ytdbfbdhnjbmmjaa
open Go.RowKit
set_option linter.unusedVariables false

theorem store3 {w : World} {g : Nat} {a b c : Value} {t : TypeId} (R : w.heap[g]? = some (.cells #[a, b, c] t (0, 0))) (x0 x1 x2 : Value) :
    (w.cell? ⟨g, 0, none⟩ = some a ∧ w.frozen? ⟨g, 0, none⟩ = false) ∧ ((w.setCell ⟨g, 0, none⟩ x0).cell? ⟨g, 1, none⟩ = some b ∧ (w.setCell ⟨g, 0, none⟩ x0).frozen? ⟨g, 1, none⟩ = false) ∧
    (((w.setCell ⟨g, 0, none⟩ x0).setCell ⟨g, 1, none⟩ x1).cell? ⟨g, 2, none⟩ = some c ∧ ((w.setCell ⟨g, 0, none⟩ x0).setCell ⟨g, 1, none⟩ x1).frozen? ⟨g, 2, none⟩ = false) ∧
    (((w.setCell ⟨g, 0, none⟩ x0).setCell ⟨g, 1, none⟩ x1).setCell ⟨g, 2, none⟩ x2).heap[g]? = some (.cells #[x0, x1, x2] t (0, 0)) ∧
    Turn (fun k => k = g) w (((w.setCell ⟨g, 0, none⟩ x0).setCell ⟨g, 1, none⟩ x1).setCell ⟨g, 2, none⟩ x2) := by
  have R1 := heap_setCell_same w g 0 _ t x0 R
  have R2 := heap_setCell_same _ g 1 _ t x1 R1
  have R3 := heap_setCell_same _ g 2 _ t x2 R2
  exact ⟨⟨cell_of_row _ _ 0 _ t (0, 0) R, frozen_of_row _ _ 0 _ t R⟩, ⟨cell_of_row _ _ 1 _ t (0, 0) R1, frozen_of_row _ _ 1 _ t R1⟩, ⟨cell_of_row _ _ 2 _ t (0, 0) R2, frozen_of_row _ _ 2 _ t R2⟩, R3,
    (((Turn.refl (fun k => k = g) w).setCell (p := ⟨g, 0, none⟩) (fun _ => rfl) _).setCell (p := ⟨g, 1, none⟩) (fun _ => rfl) _).setCell (p := ⟨g, 2, none⟩) (fun _ => rfl) _⟩

/-- The least one, as far as it was looked for. -/
def LeastAt (L : List Ac) (K k : Nat) (w : World) : Prop := (k = 0 ∧ w.heap[K]? = some (.cells #[.int .u64 0, .int .u64 0, .int .i64 0] 37 (0, 0))) ∨ (0 < k ∧ ∃ y ∈ L, w.heap[K]? = some (.cells #[.int .u64 y.ad, .int .u64 y.bond, .int .i64 0] 37 (0, 0)))
theorem LeastAt.turn {L : List Ac} {K k : Nat} {w w' : World} (h : LeastAt L K k w) (t : Turn no w w') : LeastAt L K k w' := by
  rcases h with ⟨e, r⟩ | ⟨e, y0, m0, r⟩
  · exact Or.inl ⟨e, t.obj r (fun q => q)⟩
  · exact Or.inr ⟨e, y0, m0, t.obj r (fun q => q)⟩
theorem LeastAt.row {L : List Ac} {K k : Nat} {w : World} (h : LeastAt L K k w) : ∃ x0 x1 x2, w.heap[K]? = some (.cells #[x0, x1, x2] 37 (0, 0)) := by
  rcases h with ⟨e, r⟩ | ⟨e, y0, m0, r⟩ <;> exact ⟨_, _, _, r⟩
theorem LeastAt.more {L : List Ac} {K k : Nat} {w w' : World} (h : LeastAt L K k w) (t : Turn no w w') (h0 : k ≠ 0) : LeastAt L K (k + 1) w' := by
  rcases h with ⟨e, r⟩ | ⟨e, y0, m0, r⟩
  · exact absurd e h0
  · exact Or.inr ⟨Nat.succ_pos _, y0, m0, t.obj r (fun q => q)⟩

def firstLoop : Code → Option Code
  | .loop c => some c
  | .seq a b => match firstLoop a with
    | some c => some c
    | none => firstLoop b
  | .block _ c => firstLoop c
  | .scope c => firstLoop c
  | .cond _ a b => match firstLoop a with
    | some c => some c
    | none => firstLoop b
  | _ => none
def body1 (F : Func) : Code := ((F.body.bind firstLoop).getD .skip)

set_option maxRecDepth 1000000 in
set_option maxHeartbeats 400000000 in
theorem loop1 (w w2 w7 : World) (l L : List Ac) (K n mb sp : Nat) (st : Int) (p2 p3 p4 p5 p6 p7 p8 p9 p10 p11 : Value) (a1 a6 : Option Addr) (cap1 cap6 : Nat)
    (hn : Hid (L.length = n)) (HK : Shut (∀ W, Turn (fun z => z = K) w7 W → W.heap[w2.heap.size]? = some (.cells #[.slice a1 l.length cap1, .slice none 0 0, .int .u64 0, .int .u64 sp] 29 (0, 0)) ∧ W.heap[w.heap.size]? = some (.cells #[.int .u64 mb, .int .i64 st, p2, p3, p4, p5, p6, p7, p8, p9, p10, p11] 25 (0, 0)) ∧ As W (.slice a1 l.length cap1) l ∧ OwnN W 37 3 (.slice a6 n cap6) n (meC L) ∧ Turn no w W))
    (HR7 : Shut (w7.heap[K]? = some (.cells #[.int .u64 0, .int .u64 0, .int .i64 0] 37 (0, 0)))) (HAS : Shut (Asc l)) (HSE : Shut (Seated l L mb st)) (hLl : n ≤ 9223372036854775807)
    (K0 : Act → World → Prop) (c0 c1 c2 c4 c5 c7 c8 c9 c13 c14 c15 c16 c17 c18 c19 c20 c21 c22 c23 c24 c25 c26 c27 c28 c29 c30 c31 c32 c33 c34 c35 c36 c37 c38 c39 c40 c41 c42 c43 c44 c45 c46 c47 c48 c49 c50 c51 c52 c53 c54 c55 c56 c57 c58 c59 c60 c61 c62 c63 c64 c65 c66 c67 c68 c69 c70 c71 c72 c73 c74 c75 c76 c77 c78 c79 c80 c81 c82 c83 c84 c85 c86 c87 c88 c89 c90 c91 c92 c93 c94 c95 c96 c97 c98 c99 c100 c101 c102 c103 c104 c105 c106 c107 c108 c109 c110 c111 c112 c113 c114 c115 c116 c117 c118 c119 c120 c121 c122 c123 c124 c125 c126 c127 c128 c129 c130 c131 c132 c133 c134 c135 c136 c137 c138 c139 c140 c141 c142 c143 c144 c145 c146 c147 c148 c149 c150 c151 c152 c153 c154 c155 c156 c157 c158 c159 c160 c161 c162 c163 c164 c165 c166 c167 c168 c169 c170 c171 c172 c173 c174 c175 c176 c177 c178 c179 c180 c181 c182 c183 c184 c185 c186 c187 c188 c189 c190 c191 c192 c193 c194 c195 c196 c197 c198 c199 c200 c201 c202 c203 c204 c205 c206 c207 c208 c209 c210 c211 c212 c213 c214 c215 c216 c217 c218 c219 c220 c221 c222 c223 : Value)
    (HEX : Shut (∀ (u4 u13 u40 u41 u42 u43 u44 u45 u46 u47 u48 u49 u50 u51 u52 u53 u54 u55 u56 u57 u58 u59 u60 u61 u62 u63 u64 u65 u66 u67 u68 u69 u70 u71 u72 u73 u74 u75 u76 u77 u78 u79 u80 u81 u82 u83 u84 u85 u86 u87 u88 u89 u90 u91 u92 u93 u94 u95 u96 u97 u98 u99 u100 u101 u102 u103 u104 u105 u106 u107 u108 u109 u110 u111 u112 u113 u114 u115 u116 u117 u118 u119 u120 u121 u122 u123 u124 u125 u126 u127 u128 : Value) (wr : World), Shut (Turn (fun z => z = K) w7 wr ∧ LeastAt L K n wr) → K0 ⟨List.toArray (c0 :: c1 :: c2 :: Value.pointer (some ⟨w.heap.size, 0, none⟩) :: u4 :: c5 :: Value.pointer (some ⟨w2.heap.size, 0, none⟩) :: c7 :: c8 :: c9 :: Value.slice a6 n cap6 :: Value.pointer (some ⟨K, 0, none⟩) :: Value.int .i64 n :: u13 :: c14 :: c15 :: c16 :: c17 :: c18 :: c19 :: c20 :: c21 :: c22 :: c23 :: c24 :: c25 :: c26 :: c27 :: c28 :: c29 :: c30 :: c31 :: c32 :: c33 :: c34 :: c35 :: c36 :: c37 :: c38 :: c39 :: u40 :: u41 :: u42 :: u43 :: u44 :: u45 :: u46 :: u47 :: u48 :: u49 :: u50 :: u51 :: u52 :: u53 :: u54 :: u55 :: u56 :: u57 :: u58 :: u59 :: u60 :: u61 :: u62 :: u63 :: u64 :: u65 :: u66 :: u67 :: u68 :: u69 :: u70 :: u71 :: u72 :: u73 :: u74 :: u75 :: u76 :: u77 :: u78 :: u79 :: u80 :: u81 :: u82 :: u83 :: u84 :: u85 :: u86 :: u87 :: u88 :: u89 :: u90 :: u91 :: u92 :: u93 :: u94 :: u95 :: u96 :: u97 :: u98 :: u99 :: u100 :: u101 :: u102 :: u103 :: u104 :: u105 :: u106 :: u107 :: u108 :: u109 :: u110 :: u111 :: u112 :: u113 :: u114 :: u115 :: u116 :: u117 :: u118 :: u119 :: u120 :: u121 :: u122 :: u123 :: u124 :: u125 :: u126 :: u127 :: u128 :: c129 :: c130 :: c131 :: c132 :: c133 :: c134 :: c135 :: c136 :: c137 :: c138 :: c139 :: c140 :: c141 :: c142 :: c143 :: c144 :: c145 :: c146 :: c147 :: c148 :: c149 :: c150 :: c151 :: c152 :: c153 :: c154 :: c155 :: c156 :: c157 :: c158 :: c159 :: c160 :: c161 :: c162 :: c163 :: c164 :: c165 :: c166 :: c167 :: c168 :: c169 :: c170 :: c171 :: c172 :: c173 :: c174 :: c175 :: c176 :: c177 :: c178 :: c179 :: c180 :: c181 :: c182 :: c183 :: c184 :: c185 :: c186 :: c187 :: c188 :: c189 :: c190 :: c191 :: c192 :: c193 :: c194 :: c195 :: c196 :: c197 :: c198 :: c199 :: c200 :: c201 :: c202 :: c203 :: c204 :: c205 :: c206 :: c207 :: c208 :: c209 :: c210 :: c211 :: c212 :: c213 :: c214 :: c215 :: c216 :: c217 :: c218 :: c219 :: c220 :: c221 :: c222 :: c223 :: []), []⟩ wr)) :
    Code.wp Try.prog (Code.loop (body1 Try.f3)) (Exit.inBlock 0 (Exit.then K0 (bodyPost Try.prog Try.f3 fun e w' => e = .returned (.bool true) ∧ Turn no w w'))) ⟨List.toArray (c0 :: c1 :: c2 :: Value.pointer (some ⟨w.heap.size, 0, none⟩) :: c4 :: c5 :: Value.pointer (some ⟨w2.heap.size, 0, none⟩) :: c7 :: c8 :: c9 :: Value.slice a6 n cap6 :: Value.pointer (some ⟨K, 0, none⟩) :: Value.int .i64 0 :: c13 :: c14 :: c15 :: c16 :: c17 :: c18 :: c19 :: c20 :: c21 :: c22 :: c23 :: c24 :: c25 :: c26 :: c27 :: c28 :: c29 :: c30 :: c31 :: c32 :: c33 :: c34 :: c35 :: c36 :: c37 :: c38 :: c39 :: c40 :: c41 :: c42 :: c43 :: c44 :: c45 :: c46 :: c47 :: c48 :: c49 :: c50 :: c51 :: c52 :: c53 :: c54 :: c55 :: c56 :: c57 :: c58 :: c59 :: c60 :: c61 :: c62 :: c63 :: c64 :: c65 :: c66 :: c67 :: c68 :: c69 :: c70 :: c71 :: c72 :: c73 :: c74 :: c75 :: c76 :: c77 :: c78 :: c79 :: c80 :: c81 :: c82 :: c83 :: c84 :: c85 :: c86 :: c87 :: c88 :: c89 :: c90 :: c91 :: c92 :: c93 :: c94 :: c95 :: c96 :: c97 :: c98 :: c99 :: c100 :: c101 :: c102 :: c103 :: c104 :: c105 :: c106 :: c107 :: c108 :: c109 :: c110 :: c111 :: c112 :: c113 :: c114 :: c115 :: c116 :: c117 :: c118 :: c119 :: c120 :: c121 :: c122 :: c123 :: c124 :: c125 :: c126 :: c127 :: c128 :: c129 :: c130 :: c131 :: c132 :: c133 :: c134 :: c135 :: c136 :: c137 :: c138 :: c139 :: c140 :: c141 :: c142 :: c143 :: c144 :: c145 :: c146 :: c147 :: c148 :: c149 :: c150 :: c151 :: c152 :: c153 :: c154 :: c155 :: c156 :: c157 :: c158 :: c159 :: c160 :: c161 :: c162 :: c163 :: c164 :: c165 :: c166 :: c167 :: c168 :: c169 :: c170 :: c171 :: c172 :: c173 :: c174 :: c175 :: c176 :: c177 :: c178 :: c179 :: c180 :: c181 :: c182 :: c183 :: c184 :: c185 :: c186 :: c187 :: c188 :: c189 :: c190 :: c191 :: c192 :: c193 :: c194 :: c195 :: c196 :: c197 :: c198 :: c199 :: c200 :: c201 :: c202 :: c203 :: c204 :: c205 :: c206 :: c207 :: c208 :: c209 :: c210 :: c211 :: c212 :: c213 :: c214 :: c215 :: c216 :: c217 :: c218 :: c219 :: c220 :: c221 :: c222 :: c223 :: []), []⟩ w7 := by
  conv => arg 2; arg 1; whnf
  go_loopw [12] (fun x wr => ∃ k : Nat, k ≤ n ∧ x = .int .i64 k ∧ Shut (Turn (fun z => z = K) w7 wr ∧ LeastAt L K k wr)) (fun x _ => n - (intOf x).toNat)
  case atStart => exact ⟨0, by omega, rfl, Turn.refl _ _, Or.inl ⟨rfl, HR7.out⟩⟩
  case round =>
    obtain ⟨k, hk, rfl, HI⟩ := hrel
    by_cases hlt : k < n
    · obtain ⟨y, hy⟩ : ∃ y, L[k]? = some y := ⟨L[k]'(by rw [hn.out]; exact hlt), List.getElem?_eq_getElem _⟩
      obtain ⟨hR, hP, hA, hO, _⟩ := HK.out wr HI.out.1
      have hO' := hO
      rw [← hn.out] at hO'
      obtain ⟨b6, rfl, c0, c1, c2⟩ := mem_cells hO' k y hy
      clear hO'
      have hyL : y ∈ L := List.mem_of_getElem? hy
      obtain ⟨hyl, hyj, hym, hy0⟩ := HSE.out.good y hyL
      obtain ⟨j, hj, hjf⟩ := HAS.out.first hyl
      have HKY := shut hy
      have hlt' : (k : Int) < (n : Int) := by omega
      have hk1 : Hid (k + 1 ≤ n) := hlt
      have HD : Shut (∀ W, Turn no wr W → W.cell? ⟨w2.heap.size, 0, none⟩ = some (.slice a1 l.length cap1) ∧ W.cell? ⟨w2.heap.size, 1, none⟩ = some (.slice none 0 0) ∧ W.cell? ⟨w2.heap.size, 2, none⟩ = some (.int .u64 0) ∧ W.cell? ⟨w2.heap.size, 3, none⟩ = some (.int .u64 sp) ∧ W.cell? ⟨b6, k * 3, none⟩ = some (.int .u64 y.ad) ∧ W.cell? ⟨b6, k * 3 + 1, none⟩ = some (.int .u64 y.bond) ∧ W.cell? ⟨b6, k * 3 + 2, none⟩ = some (.int .i64 0) ∧ W.cell? ⟨w.heap.size, 0, none⟩ = some (.int .u64 mb)) := fun W t =>
        ⟨t.keep (cell_of_row _ _ 0 _ 29 (0, 0) hR) (fun q => q), t.keep (cell_of_row _ _ 1 _ 29 (0, 0) hR) (fun q => q), t.keep (cell_of_row _ _ 2 _ 29 (0, 0) hR) (fun q => q), t.keep (cell_of_row _ _ 3 _ 29 (0, 0) hR) (fun q => q), t.keep c0 (fun q => q), t.keep c1 (fun q => q), t.keep c2 (fun q => q), t.keep (cell_of_row _ _ 0 _ 25 (0, 0) hP) (fun q => q)⟩
      have HF : Shut (∀ W, Turn no wr W → Calls Try.prog 9 #[.agg #[.slice a1 l.length cap1, .slice none 0 0, .int .u64 0, .int .u64 sp], .int .u64 y.ad] W fun e w' => e = .returned (.agg #[.int .u64 y.ad, .int .u64 y.bal, .int .u64 y.bond, .int .u64 y.nonce, .bool y.jail]) ∧ Turn no W w') := fun W t => find9 W _ l (hA.turn_no t) 0 sp y.ad j y hj rfl hjf
      have HY := shut (And.intro hyL (And.intro hyj (And.intro hym hy0)))
      clear hR hP hA hO c0 c1 c2 hyl hyj hym hy0 hj hjf hyL
      go_upto_region 15 with fail
      go_cut [13] from 40 to 128 (fun c wx => ∃ bx : Nat, c = .pointer (some ⟨bx, 0, none⟩) ∧ Shut (Turn no wr wx ∧ wx.heap[bx]? = some (.cells #[.int .u64 y.ad, .int .u64 y.bal, .int .u64 y.bond, .int .u64 y.nonce, .bool y.jail] 39 (0, 0))))
      case first =>
        refine wp_region_held_drew (S := fun W => Turn no wr W) (by kernel_rfl) (Turn.refl no wr).drew (fun hHeld => ?_)
        refine' wpAnyH_take (i := 0) (v := .agg #[.slice a1 l.length cap1, .slice none 0 0, .int .u64 0, .int .u64 sp]) rfl (by kernel_rfl) (by kernel_rfl) (by kernel_rfl) (fun _ _ _ h => h) (Or.inl ⟨by kernel_rfl, fun W hW => ?y1⟩) hHeld ?r1
        · obtain ⟨g0, g1, g2, g3, _⟩ := HD.out W hW
          go_simp
        refine' wpAnyH_take (i := 1) (v := .slice (some ⟨b6, 0, none⟩) n cap6) rfl (by kernel_rfl) (by kernel_rfl) (by kernel_rfl) (fun _ _ _ h => h) (Or.inl ⟨by kernel_rfl, fun W hW => ?y2⟩) hHeld ?r2
        · go_simp
        refine' wpAnyH_take (i := 2) (v := .int .i64 k) rfl (by kernel_rfl) (by kernel_rfl) (by kernel_rfl) (fun _ _ _ h => h) (Or.inl ⟨by kernel_rfl, fun W hW => ?y3⟩) hHeld ?r3
        · go_simp
        refine' wpAnyH_take (i := 3) (v := .pointer (some ⟨b6, k * 3, none⟩)) rfl (by kernel_rfl) (by kernel_rfl) (by kernel_rfl) (fun _ _ _ h => h) (Or.inl ⟨by kernel_rfl, fun W hW => ?y4⟩) hHeld ?r4
        · go_simp
        refine' wpAnyH_take (i := 4) (v := .pointer (some ⟨b6, k * 3, none⟩)) rfl (by kernel_rfl) (by kernel_rfl) (by kernel_rfl) (fun _ _ _ h => h) (Or.inl ⟨by kernel_rfl, fun W hW => ?y5⟩) hHeld ?r5
        · go_simp
        refine' wpAnyH_take (i := 5) (v := .int .u64 y.ad) rfl (by kernel_rfl) (by kernel_rfl) (by kernel_rfl) (fun _ _ _ h => h) (Or.inl ⟨by kernel_rfl, fun W hW => ?y6⟩) hHeld ?r6
        · obtain ⟨g0, g1, g2, g3, c0, _⟩ := HD.out W hW
          go_simp
        refine wpAnyH_ready (rs := [6, 7]) (by kernel_rfl) (by simp) ?_
        refine AllReadyH.cons rfl (fun K' hK => ?_) (AllReadyH.cons rfl (fun K' hK => ?_) AllReadyH.nil)
        · go_simp
          refine (HF.out _ hHeld).mono ?_
          rintro e w8 ⟨rfl, t8⟩
          have T8 := hHeld.then_no t8
          refine hK.out _ _ T8 (fun hHeld => ?_)
          clear hK
          refine wpAnyH_ready (rs := [7]) (by kernel_rfl) (by simp) ?_
          refine AllReadyH.cons rfl (fun K hK => ?_) AllReadyH.nil
          go_simp
          refine hK.out _ _ (T8.alloc _) (fun hHeld => ?_)
          clear hK
          refine wpAnyH_ready (rs := [8]) (by kernel_rfl) (by simp) ?_
          refine AllReadyH.cons rfl (fun K hK => ?_) AllReadyH.nil
          go_simp
          refine hK.out _ _ (T8.alloc _) (fun hHeld => ?_)
          clear hK
          refine wpAnyH_done (by kernel_rfl) ?_ _
          go_wp2_with fail
          go_meet
          case rel => exact ⟨_, rfl, T8.alloc _, heap_alloc_new w8 _⟩
        · go_simp
          have T8 := hHeld.alloc (.cells #[.int .u64 0, .int .u64 0, .int .u64 0, .int .u64 0, .bool false] 39)
          refine hK.out _ _ T8 (fun hHeld => ?_)
          clear hK
          refine wpAnyH_ready (rs := [6]) (by kernel_rfl) (by simp) ?_
          refine AllReadyH.cons rfl (fun K hK => ?_) AllReadyH.nil
          go_simp
          refine (HF.out _ T8).mono ?_
          rintro e w8 ⟨rfl, t8⟩
          refine hK.out _ _ (T8.then_no t8) (fun hHeld => ?_)
          clear hK
          have R8 : w8.heap[wr.heap.size]? = some (.cells #[.int .u64 0, .int .u64 0, .int .u64 0, .int .u64 0, .bool false] 39 (0, 0)) := t8.obj (heap_alloc_new wr.drew _) (fun q => q)
          obtain ⟨⟨p0, p1⟩, ⟨p2, p3⟩, ⟨p4, p5⟩, ⟨p6, p7⟩, ⟨p8, p9⟩, RF, TS⟩ := store5 R8 (.int .u64 y.ad) (.int .u64 y.bal) (.int .u64 y.bond) (.int .u64 y.nonce) (.bool y.jail)
          have HRF := shut RF
          have TF : Turn no wr _ := (T8.then_no t8).trans TS (fun i hi e => by omega)
          have HTF := shut TF
          clear RF TS R8 t8
          refine wpAnyH_ready (rs := [8]) (by kernel_rfl) (by simp) ?_
          refine AllReadyH.cons rfl (fun K hK => ?_) AllReadyH.nil
          go_simp
          refine hK.out _ _ HTF.out (fun hHeld => ?_)
          clear hK
          refine wpAnyH_done (by kernel_rfl) ?_ _
          go_wp2_with fail
          go_meet
          case rel => exact ⟨_, rfl, HTF.out, HRF.out⟩
      case rest =>
        obtain ⟨bx, rfl, HX⟩ := hcut
        obtain ⟨wx, rfl⟩ : ∃ wx : World, wx = wc := ⟨_, rfl⟩
        have HQ : Shut (∀ W, Turn no wx W → W.cell? ⟨b6, k * 3, none⟩ = some (.int .u64 y.ad) ∧ W.cell? ⟨b6, k * 3 + 1, none⟩ = some (.int .u64 y.bond) ∧ W.cell? ⟨b6, k * 3 + 2, none⟩ = some (.int .i64 0) ∧ W.cell? ⟨w.heap.size, 0, none⟩ = some (.int .u64 mb) ∧ W.cell? ⟨bx, 0, none⟩ = some (.int .u64 y.ad) ∧ W.cell? ⟨bx, 2, none⟩ = some (.int .u64 y.bond) ∧ W.cell? ⟨bx, 4, none⟩ = some (.bool false)) := fun W t => by
          obtain ⟨_, _, _, _, c0, c1, c2, cp⟩ := HD.out W (HX.out.1.then_no t)
          have RX := t.obj HX.out.2 (fun q => q)
          exact ⟨c0, c1, c2, cp, cell_of_row _ _ 0 _ 39 (0, 0) RX, cell_of_row _ _ 2 _ 39 (0, 0) RX, by rw [← HY.out.2.1]; exact cell_of_row _ _ 4 _ 39 (0, 0) RX⟩
        have hn1 : ((y.ad : Int) != (y.ad : Int)) = false := by simp
        have hn3 : ((y.bond : Int) != (y.bond : Int)) = false := by simp
        have hn4 : decide ((y.bond : Int) < (mb : Int)) = false := by have := HY.out.2.2.1; simp; omega
        have hn5 : ((y.bond : Int) == 0) = false := by have := HY.out.2.2.2; simp; omega
        go_upto_region 16 with fail
        go_cut [112] from 40 to 128 (fun c wy => c = .bool false ∧ Turn no wx wy)
        case first =>
          obtain ⟨c0, c1, c2, cp, e0, e2, e4⟩ := HQ.out wx (Turn.refl _ _)
          have hB0 : ¬ y.bond = 0 := by have := HY.out.2.2.2; omega
          have hBm : mb ≤ y.bond := HY.out.2.2.1
          have hBm' : ¬ (y.bond : Int) < (mb : Int) := by omega
          have HB5 := shut hn5
          clear hn1 hn3 hn4 hn5
          by_cases hk0 : k = 0
          · have hz : ¬ 0 < k := by omega
            have hz' : decide ((0 : Int) < (k : Int)) = false := by simp; omega
            clear hk0
            go_quiet (fail)
            go_wp2_with fail
            go_meet
            case rel => exact ⟨by rw [HB5.out], (Turn.refl no wx).drewN _⟩
          · have hz : 0 < k := by omega
            have hz' : decide ((0 : Int) < (k : Int)) = true := by simp; omega
            obtain ⟨k', hk'⟩ : ∃ k', k = k' + 1 := ⟨k - 1, by omega⟩
            obtain ⟨y', hy'⟩ : ∃ y', L[k']? = some y' := ⟨L[k']'(by rw [hn.out]; omega), List.getElem?_eq_getElem _⟩
            have hO' := (HK.out wr HI.out.1).2.2.2.1
            rw [← hn.out] at hO'
            obtain ⟨b', e', g0, _⟩ := mem_cells hO' k' y' hy'
            cases e'
            have g0 := HX.out.1.keep g0 (fun q => q)
            have hlk : (k' : Int) < (n : Int) := by omega
            have hw : IntKind.i64.wrap ((k : Int) - 1) = (k' : Int) := by rw [IntKind.wrap_i64]; omega
            have hLE : y'.ad < y.ad := HSE.out.asc.at (show k' < k by omega) hy' HKY.out
            have hLE' : ¬ (y.ad : Int) ≤ (y'.ad : Int) := by omega
            clear hO' hy' hk' hk0
            go_quiet (fail)
            go_wp2_with fail
            go_meet
            case rel => exact ⟨by rw [HB5.out], (Turn.refl no wx).drewN _⟩
        case rest =>
          obtain ⟨rfl, tz⟩ := hcut
          obtain ⟨wz, rfl⟩ : ∃ wz : World, wz = wc := ⟨_, rfl⟩
          have HTZ := shut (HX.out.1.then_no tz)
          have HZ : Shut (∀ W, Turn no wz W → W.cell? ⟨b6, k * 3, none⟩ = some (.int .u64 y.ad) ∧ W.cell? ⟨b6, k * 3 + 1, none⟩ = some (.int .u64 y.bond) ∧ W.cell? ⟨b6, k * 3 + 2, none⟩ = some (.int .i64 0)) := fun W t => by
            obtain ⟨c0, c1, c2, _⟩ := HQ.out W (tz.then_no t)
            exact ⟨c0, c1, c2⟩
          have HIZ : Shut (Turn (fun z => z = K) w7 wz ∧ LeastAt L K (k) wz) := by
            exact ⟨HI.out.1.then_no HTZ.out, HI.out.2.turn HTZ.out⟩
          clear tz HQ HD HF hn1 hn3 hn4 hn5 hy
          go_upto_region 18 with fail
          go_cut [124] from 40 to 128 (fun c wy => ∃ b : Bool, c = .bool b ∧ Shut ((k = 0 → b = true) ∧ Turn no wz wy))
          case first =>
            by_cases hk0 : k = 0
            · have hz : ((k : Int) == 0) = true := by simp; omega
              have HK0 := shut hk0
              clear hk0
              refine wp_region_held_drew (S := fun W => Turn no wz W) (by kernel_rfl) (Turn.refl no wz).drew (fun hHeld => ?_)
              refine' wpAnyH_take (i := 0) (v := .int .i64 k) rfl (by kernel_rfl) (by kernel_rfl) (by kernel_rfl) (fun _ _ _ h => h) (Or.inl ⟨by kernel_rfl, fun W hW => ?y7⟩) hHeld ?r7
              · go_simp
              refine' wpAnyH_take (i := 1) (v := .bool true) rfl (by kernel_rfl) (by kernel_rfl) (by kernel_rfl) (fun _ _ _ h => h) (Or.inl ⟨by kernel_rfl, fun W hW => ?y8⟩) hHeld ?r8
              · go_simp
              refine' wpAnyH_take (i := 2) (v := .bool true) rfl (by kernel_rfl) (by kernel_rfl) (by kernel_rfl) (fun _ _ _ h => h) (Or.inl ⟨by kernel_rfl, fun W hW => ?y9⟩) hHeld ?r9
              · go_simp
              refine' wpAnyH_take (i := 3) (v := undef) rfl (by kernel_rfl) (by kernel_rfl) (by kernel_rfl) (fun _ _ _ h => h) (Or.inr ⟨by kernel_rfl, rfl⟩) hHeld ?r10
              refine' wpAnyH_take (i := 4) (v := undef) rfl (by kernel_rfl) (by kernel_rfl) (by kernel_rfl) (fun _ _ _ h => h) (Or.inr ⟨by kernel_rfl, rfl⟩) hHeld ?r11
              refine' wpAnyH_take (i := 5) (v := undef) rfl (by kernel_rfl) (by kernel_rfl) (by kernel_rfl) (fun _ _ _ h => h) (Or.inr ⟨by kernel_rfl, rfl⟩) hHeld ?r12
              refine' wpAnyH_take (i := 6) (v := undef) rfl (by kernel_rfl) (by kernel_rfl) (by kernel_rfl) (fun _ _ _ h => h) (Or.inr ⟨by kernel_rfl, rfl⟩) hHeld ?r13
              refine' wpAnyH_take (i := 7) (v := undef) rfl (by kernel_rfl) (by kernel_rfl) (by kernel_rfl) (fun _ _ _ h => h) (Or.inr ⟨by kernel_rfl, rfl⟩) hHeld ?r14
              refine' wpAnyH_take (i := 8) (v := undef) rfl (by kernel_rfl) (by kernel_rfl) (by kernel_rfl) (fun _ _ _ h => h) (Or.inr ⟨by kernel_rfl, rfl⟩) hHeld ?r15
              refine' wpAnyH_take (i := 9) (v := undef) rfl (by kernel_rfl) (by kernel_rfl) (by kernel_rfl) (fun _ _ _ h => h) (Or.inr ⟨by kernel_rfl, rfl⟩) hHeld ?r16
              refine' wpAnyH_take (i := 10) (v := undef) rfl (by kernel_rfl) (by kernel_rfl) (by kernel_rfl) (fun _ _ _ h => h) (Or.inr ⟨by kernel_rfl, rfl⟩) hHeld ?r17
              refine' wpAnyH_take (i := 11) (v := .bool true) rfl (by kernel_rfl) (by kernel_rfl) (by kernel_rfl) (fun _ _ _ h => h) (Or.inl ⟨by kernel_rfl, fun W hW => ?y18⟩) hHeld ?r18
              · go_simp
              refine wpAnyH_done (by kernel_rfl) ?_ _
              go_simp
              go_wp2_with fail
              go_meet
              case rel =>
                refine ⟨true, rfl, ?_⟩
                exact shut (And.intro (fun _ => rfl) hHeld)
            · have hz : ((k : Int) == 0) = false := by simp; omega
              obtain ⟨y0, _, r0⟩ : ∃ y ∈ L, wz.heap[K]? = some (.cells #[.int .u64 y.ad, .int .u64 y.bond, .int .i64 0] 37 (0, 0)) := by
                rcases HIZ.out.2 with ⟨e, r⟩ | ⟨e, q⟩
                · exact absurd e hk0
                · exact q
              have HK0 := shut hk0
              have HR0 := shut r0
              clear hk0 r0
              refine wp_region_held_drew (S := fun W => Turn no wz W) (by kernel_rfl) (Turn.refl no wz).drew (fun hHeld => ?_)
              refine' wpAnyH_take (i := 0) (v := .int .i64 k) rfl (by kernel_rfl) (by kernel_rfl) (by kernel_rfl) (fun _ _ _ h => h) (Or.inl ⟨by kernel_rfl, fun W hW => ?y19⟩) hHeld ?r19
              · go_simp
              refine' wpAnyH_take (i := 1) (v := .bool false) rfl (by kernel_rfl) (by kernel_rfl) (by kernel_rfl) (fun _ _ _ h => h) (Or.inl ⟨by kernel_rfl, fun W hW => ?y20⟩) hHeld ?r20
              · go_simp
              refine' wpAnyH_take (i := 2) (v := .bool false) rfl (by kernel_rfl) (by kernel_rfl) (by kernel_rfl) (fun _ _ _ h => h) (Or.inl ⟨by kernel_rfl, fun W hW => ?y21⟩) hHeld ?r21
              · go_simp
              refine' wpAnyH_take (i := 3) (v := .slice (some ⟨b6, 0, none⟩) n cap6) rfl (by kernel_rfl) (by kernel_rfl) (by kernel_rfl) (fun _ _ _ h => h) (Or.inl ⟨by kernel_rfl, fun W hW => ?y22⟩) hHeld ?r22
              · go_simp
              refine' wpAnyH_take (i := 4) (v := .int .i64 k) rfl (by kernel_rfl) (by kernel_rfl) (by kernel_rfl) (fun _ _ _ h => h) (Or.inl ⟨by kernel_rfl, fun W hW => ?y23⟩) hHeld ?r23
              · go_simp
              refine' wpAnyH_take (i := 5) (v := .pointer (some ⟨b6, k * 3, none⟩)) rfl (by kernel_rfl) (by kernel_rfl) (by kernel_rfl) (fun _ _ _ h => h) (Or.inl ⟨by kernel_rfl, fun W hW => ?y24⟩) hHeld ?r24
              · go_simp
              refine' wpAnyH_take (i := 6) (v := .pointer (some ⟨b6, k * 3 + 1, none⟩)) rfl (by kernel_rfl) (by kernel_rfl) (by kernel_rfl) (fun _ _ _ h => h) (Or.inl ⟨by kernel_rfl, fun W hW => ?y25⟩) hHeld ?r25
              · go_simp
              refine' wpAnyH_take (i := 7) (v := .int .u64 y.bond) rfl (by kernel_rfl) (by kernel_rfl) (by kernel_rfl) (fun _ _ _ h => h) (Or.inl ⟨by kernel_rfl, fun W hW => ?y26⟩) hHeld ?r26
              · obtain ⟨c0, c1, c2⟩ := HZ.out W hW
                go_simp
              refine' wpAnyH_take (i := 8) (v := .pointer (some ⟨K, 1, none⟩)) rfl (by kernel_rfl) (by kernel_rfl) (by kernel_rfl) (fun _ _ _ h => h) (Or.inl ⟨by kernel_rfl, fun W hW => ?y27⟩) hHeld ?r27
              · go_simp
              refine' wpAnyH_take (i := 9) (v := .int .u64 y0.bond) rfl (by kernel_rfl) (by kernel_rfl) (by kernel_rfl) (fun _ _ _ h => h) (Or.inl ⟨by kernel_rfl, fun W hW => ?y28⟩) hHeld ?r28
              · have z := cell_of_row _ _ 1 _ 37 (0, 0) (hW.obj HR0.out (fun q => q))
                go_simp
              refine' wpAnyH_take (i := 10) (v := .bool (decide ((y.bond : Int) ≤ (y0.bond : Int)))) rfl (by kernel_rfl) (by kernel_rfl) (by kernel_rfl) (fun _ _ _ h => h) (Or.inl ⟨by kernel_rfl, fun W hW => ?y29⟩) hHeld ?r29
              · go_simp
              refine' wpAnyH_take (i := 11) (v := .bool (decide ((y.bond : Int) ≤ (y0.bond : Int)))) rfl (by kernel_rfl) (by kernel_rfl) (by kernel_rfl) (fun _ _ _ h => h) (Or.inl ⟨by kernel_rfl, fun W hW => ?y30⟩) hHeld ?r30
              · go_simp
              refine wpAnyH_done (by kernel_rfl) ?_ _
              go_simp
              go_wp2_with fail
              go_meet
              case rel =>
                refine ⟨_, rfl, ?_⟩
                exact shut (And.intro (fun e => absurd e HK0.out) hHeld)
          case rest =>
            obtain ⟨b, rfl, HB⟩ := hcut
            obtain ⟨wy, rfl⟩ : ∃ wy : World, wy = wc := ⟨_, rfl⟩
            cases b with
            | true =>
              obtain ⟨c0, c1, c2⟩ := HZ.out wy HB.out.2
              obtain ⟨x0, x1, x2, RK⟩ := (HIZ.out.2.turn HB.out.2).row
              obtain ⟨⟨p0, p1⟩, ⟨p2, p3⟩, ⟨p4, p5⟩, RF, TS⟩ := store3 RK (.int .u64 y.ad) (.int .u64 y.bond) (.int .i64 0)
              have HN : Shut (Turn (fun z => z = K) w7 (((wy.setCell ⟨K, 0, none⟩ (.int .u64 y.ad)).setCell ⟨K, 1, none⟩ (.int .u64 y.bond)).setCell ⟨K, 2, none⟩ (.int .i64 0)) ∧ LeastAt L K (k + 1) (((wy.setCell ⟨K, 0, none⟩ (.int .u64 y.ad)).setCell ⟨K, 1, none⟩ (.int .u64 y.bond)).setCell ⟨K, 2, none⟩ (.int .i64 0))) := ⟨(HIZ.out.1.then_no HB.out.2).trans TS (fun _ _ e => e), Or.inr ⟨Nat.succ_pos _, y, HY.out.1, RF⟩⟩
              clear RK RF TS HZ HB HIZ HTZ
              go_wp2_with fail
              go_roundw
              case rel => exact ⟨k + 1, hk1.out, by go_num, HN⟩
              case measure => have := hk1.out; simp [intOf]; omega
            | false =>
              have HN : Shut (Turn (fun z => z = K) w7 wy ∧ LeastAt L K (k + 1) wy) := by
                exact ⟨HIZ.out.1.then_no HB.out.2, HIZ.out.2.more HB.out.2 (fun e => absurd (HB.out.1 e) (by simp))⟩
              clear HZ HB HIZ HTZ
              go_wp2_with fail
              go_roundw
              case rel => exact ⟨k + 1, hk1.out, by go_num, HN⟩
              case measure => have := hk1.out; simp [intOf]; omega
    · have hkn : n = k := by omega
      subst hkn
      have hlt' : ¬ (n : Int) < (n : Int) := by omega
      clear HK HR7 HAS HSE hn hlt
      go_wp2_with fail
      exact HEX.out _ _ _ _ _ _ _ _ _ _ _ _ _ _ _ _ _ _ _ _ _ _ _ _ _ _ _ _ _ _ _ _ _ _ _ _ _ _ _ _ _ _ _ _ _ _ _ _ _ _ _ _ _ _ _ _ _ _ _ _ _ _ _ _ _ _ _ _ _ _ _ _ _ _ _ _ _ _ _ _ _ _ _ _ _ _ _ _ _ _ _ wr HI
end Go.Proofs.Ytdbfbdhnjbmmjaa
