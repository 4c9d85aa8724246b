/- TxBytes of the program. -/
import Derived.Test.YtpfjllkmaogafaaT4
namespace Go.Proofs.Ytpfjllkmaogafaa
open Go.RowKit
set_option linter.unusedVariables false

theorem plainT_kind {x : Tx} (h : plainT x = 0) : 1 ≤ x.k ∧ x.k ≤ 4 := by
  unfold plainT at h
  by_cases q : x.k < 1 ∨ 4 < x.k
  · rw [if_pos q] at h; cases h
  · omega
theorem plainS_zero {ch : ByteArray} {x : Tx} (h : plainS ch x = 0) : ch.size ≤ 16 ∧ 1 ≤ x.k ∧ x.k ≤ 4 := by
  unfold plainS at h
  cases hc : cB ch
  · rw [hc] at h; cases h
  · rw [hc] at h
    have := plainT_kind h
    unfold cB at hc
    simp at hc
    omega
/-- What a call that tells bytes or an error leaves. -/
def Told (w : World) (e0 : Int) (B : List UInt8) (e : Ending) (w' : World) : Prop := ∃ v', e = .returned (.tuple #[v', .int .i64 e0]) ∧ Own w' 5 v' (B.map bv) ∧ (∀ g, v'.ownBlock = some g → w.heap.size ≤ g) ∧ Turn no w w'
theorem Told.pre {w w0 w' : World} {e0 : Int} {B : List UInt8} {e : Ending} (h : Told w0 e0 B e w') (t : Turn no w w0) : Told w e0 B e w' := by
  obtain ⟨v', h1, h2, h3, h4⟩ := h
  exact ⟨v', h1, h2, fun g hg => Nat.le_trans t.size (h3 g hg), t.then_no h4⟩
def sB (ch : ByteArray) (x : Tx) : List UInt8 := if plainS ch x = 0 then stB ch x else []
set_option maxRecDepth 100000 in
set_option maxHeartbeats 4000000 in
theorem enc55 (w : World) (ch : ByteArray) (x : Tx) (ho : x.ok) (pb lb fb : Nat) (hp : w.cell? ⟨pb, 0, none⟩ = some (.func (.func 27) #[] #[])) (hl : w.cell? ⟨lb, 0, none⟩ = some (.int .u8 84)) (hf : w.cell? ⟨fb, 0, none⟩ = some (.func (.func 28) #[] #[])) :
    Calls Try.prog 55 #[.agg (stC ch x).toArray, .func (.func 53) #[] #[.pointer (some ⟨pb, 0, none⟩)], .func (.func 56) #[] #[.pointer (some ⟨lb, 0, none⟩), .pointer (some ⟨fb, 0, none⟩)]] w (Told w (plainS ch x) (sB ch x)) := by
  obtain ⟨_, _, cr⟩ := (Row.new w (stC ch x).toArray 67).st
  have hz : (Try.prog.info? 67).map (·.size) = some (stC ch x).length := by rw [stC_len ho]; exact size67
  have t0 : Turn no w (w.alloc (.cells (stC ch x).toArray 67)) := (Turn.refl no w).alloc _
  have C53 := clo53 _ ch x ho pb (t0.keep hp (fun q => q))
  have HR := shutX (fun W (t : Turn no (w.alloc (.cells (stC ch x).toArray 67)) W) => (fun j u hu => t.keep (cr j u hu) (fun q => q) : W.rangeAt w.heap.size 0 (stC ch x)))
  have hlt := World.block_lt_of_cell? w _ hl
  have hft := World.block_lt_of_cell? w _ hf
  unfold sB
  by_cases he : plainS ch x = 0
  · rw [if_pos he]
    obtain ⟨hch, hk1, hk4⟩ := plainS_zero he
    rw [he] at C53 ⊢
    have C56 : ∀ W W1, Turn no (w.alloc (.cells (stC ch x).toArray 67)) W → Wr W1 W.heap.size (.slice none 0 0) [] 0 → Turn no W W1 → Calls Try.prog 56 #[.pointer (some ⟨W.heap.size, 0, none⟩), .agg (stC ch x).toArray, .pointer (some ⟨lb, 0, none⟩), .pointer (some ⟨fb, 0, none⟩)] W1 fun e w' => e = .returned (.tuple #[]) ∧ Laid W1 W.heap.size (.slice none 0 0) (stB ch x) 0 w' := fun W W1 t h t1 =>
      clo56 W1 _ _ h ch hch x ho hk1 hk4 lb fb ((t0.then_no t).then_no t1 |>.keep hl (fun q => q)) ((t0.then_no t).then_no t1 |>.keep hf (fun q => q))
        (by have := (t0.then_no t).size
            rintro (q | q)
            · have : lb < w.heap.size := hlt; omega
            · cases q)
        (by have := (t0.then_no t).size
            rintro (q | q)
            · have : fb < w.heap.size := hft; omega
            · cases q)
    have hBl : (stB ch x).length ≤ 140737488355328 := by
      have a1 := varE_le ch.size
      have a2 : ch.data.toList.length = ch.size := by rw [Array.length_toList]; rfl
      have b1 := varE_le x.fr; have b2 := varE_le x.to; have b3 := varE_le x.am; have b4 := varE_le x.fe; have b5 := varE_le x.no
      simp only [stB, txB, List.length_append, leB_length]
      omega
    have C111 := fun W p v h => out_made W p v (stB ch x) h hBl
    have HH := shutX (And.intro C56 C111)
    clear C56 C111 hBl hch hk1 hk4 he hp hl hf hlt hft
    generalize stB ch x = SB at *
    generalize stC ch x = D at *
    go_enter Try.func55, Try.ntmps55
    go_upto_region 4 with (first | (guard_target =~ wpList _ _ _ ({ dst := _, op := Op.load 67 _, .. } :: _) _ _; refine wpList_load_mid rfl 67 (.tmp 3) rfl w.heap.size 0 rfl D _ cr Try.underlying67 rfl hz ?_) | (go_at_call 53; refine C53.mono ?_; rintro e w1 ⟨rfl, t1⟩))
    clear C53
    go_upto_region 5 with (go_at_call 110; refine (newWriter_any w1).mono ?_; rintro e w2 ⟨rfl, k2, t2⟩)
    have cr2 := HR.out w2 (t1.then_no t2)
    have C := HH.out.1 w1 w2 t1 k2 t2
    go_upto_region 6 with (first | (guard_target =~ wpList _ _ _ ({ dst := _, op := Op.load 67 _, .. } :: _) _ _; refine wpList_load_mid rfl 67 (.tmp 3) rfl w.heap.size 0 rfl D _ cr2 Try.underlying67 rfl hz ?_) | (go_at_call 56; refine C.mono ?_; rintro e w3 ⟨rfl, L3⟩))
    clear C
    obtain ⟨v3, k3, tt3, nn3⟩ := L3
    have C := HH.out.2 w3 _ _ k3
    have t3 : Turn no w1 w3 := t2.trans tt3 (fun i hi q => by
      rcases q with q | q
      · omega
      · cases q)
    go_wp2_with (go_at_call 111; refine C.mono ?_; rintro e w4 ⟨v4, rfl, o4, n4, t4⟩; obtain ⟨a4, l4, c4, rfl⟩ := o4.form)
    go_ret2
    have tA := (t0.then_no t1).then_no t3
    exact ⟨_, rfl, o4, fun g hg => Nat.le_trans tA.size (n4 g hg), tA.then_no t4⟩
  · rw [if_neg he]
    have he' : (plainS ch x != 0) = true := by simpa using he
    generalize plainS ch x = pe at *
    generalize stC ch x = D at *
    go_enter Try.func55, Try.ntmps55
    go_wp2_with (first | (guard_target =~ wpList _ _ _ ({ dst := _, op := Op.load 67 _, .. } :: _) _ _; refine wpList_load_mid rfl 67 (.tmp 3) rfl w.heap.size 0 rfl D _ cr Try.underlying67 rfl hz ?_) | (go_at_call 53; refine C53.mono ?_; rintro e w1 ⟨rfl, t1⟩))
    go_ret2
    exact ⟨_, rfl, Own.nil _ _, fun g q => (by cases q), t0.then_no t1⟩
end Go.Proofs.Ytpfjllkmaogafaa
