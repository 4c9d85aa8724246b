/- From's iterator, of an archive that no call made: it gives nothing. -/
import Derived.Test.YtghffngipcbkoaaGreatDoorA2
import Derived.RangeFuncFrom
import Derived.RangeFuncLeaves
import Derived.Shelf.Abstract
namespace Go.Proofs.YtghffngipcbkoaaGreatDoor
open Go.RowKit Go.Shelf
set_option linter.unusedVariables false

theorem Turn.grown_no {w w' : World} (t : Turn no w w') : w.grownBy w' none := ⟨t.os, t.tape, t.output, t.size, fun k hk _ => t.block k hk (fun q => q)⟩
set_option maxRecDepth 100000 in
set_option maxHeartbeats 4000000 in
theorem iter53 (W : World) (y : Value) (hb ab : Nat) (a : Option Addr) (h1 : W.cell? ⟨hb, 0, none⟩ = some (.int .u64 1)) (h2 : W.cell? ⟨ab, 0, none⟩ = some (.pointer a)) (hn : NoA W (.pointer a)) :
    Calls Tryz.prog 32 #[y, .pointer (some ⟨hb, 0, none⟩), .pointer (some ⟨ab, 0, none⟩)] W fun e W' => (∃ v, e = .returned v) ∧ Turn no W W' := by
  have c := load10 W (.pointer a) 1 hn
  have s34 := size34
  have s32 := size32
  have o34 := one34
  have o32 := one32
  generalize hz34 : Tryz.zeroCells34 = z34 at *
  obtain ⟨z32, hz32⟩ : ∃ z, Z32 = z := ⟨_, rfl⟩
  rw [hz32] at c s32 o32
  have HZ : Shut (#[.int .u64 0, .int .i64 0, .int .u8 0, .int .u8 0, .int .u8 0, .int .u8 0, .int .u8 0, .int .u8 0, .int .u8 0, .int .u8 0, .int .u8 0, .int .u8 0, .int .u8 0, .int .u8 0, .int .u8 0, .int .u8 0, .int .u8 0, .int .u8 0, .int .u8 0, .int .u8 0, .int .u8 0, .int .u8 0, .int .u8 0, .int .u8 0, .int .u8 0, .int .u8 0, .int .u8 0, .int .u8 0, .int .u8 0, .int .u8 0, .int .u8 0, .int .u8 0, .int .u8 0, .int .u8 0, .slice none 0 0] = z32) := hz32
  clear hz32 hn
  go_enter Tryz.func32, Tryz.ntmps32
  go_wp2_with fail
  refine wp_loop_once ?_
  go_wp2_with (first | (go_at_call 6; refine c.mono ?_; rintro e w1 ⟨rfl, t1⟩; have HT1 := shut t1; clear t1 c) | (refine wpList_store_anyN rfl rfl 34 (.tmp 5) (.tmp 16) rfl w1.heap.size z34 rfl rfl 34 z34 ((Row.new w1 z34 34).alloc _) s34 rfl o34 ?_; intro w2 R2 T2; have B2 := (Row.newAt (w1.alloc (.cells z34 34)) #[.int .u64 0, .int .i64 0, .int .u8 0, .int .u8 0, .int .u8 0, .int .u8 0, .int .u8 0, .int .u8 0, .int .u8 0, .int .u8 0, .int .u8 0, .int .u8 0, .int .u8 0, .int .u8 0, .int .u8 0, .int .u8 0, .int .u8 0, .int .u8 0, .int .u8 0, .int .u8 0, .int .u8 0, .int .u8 0, .int .u8 0, .int .u8 0, .int .u8 0, .int .u8 0, .int .u8 0, .int .u8 0, .int .u8 0, .int .u8 0, .int .u8 0, .int .u8 0, .int .u8 0, .int .u8 0, .slice none 0 0] 32 (w1.heap.size + 1) (by simp)).turn T2 (fun q => by have q : w1.heap.size + 1 = w1.heap.size := q; omega); have HT2 : Shut (Turn no w1 w2) := (((Turn.refl no w1).alloc _).alloc _).trans T2 (fun k hk q => by have q : k = w1.heap.size := q; exact absurd hk (by omega)); clear T2) | (refine wpList_store_anyN rfl rfl 32 (.tmp 6) (.tmp 17) rfl (w1.heap.size + 1) z32 rfl rfl 32 _ B2 s32 (by rw [← HZ.out]) o32 ?_; intro w3 R3 T3; have HT3 : Shut (Turn no w1 w3) := HT2.out.trans T3 (fun k hk q => by have q : k = w1.heap.size + 1 := q; exact absurd hk (by omega)); clear T3))
  refine bodyPost_ret (results_none rfl _ _ _) rfl ?_
  exact ⟨⟨_, rfl⟩, HT1.out.then_no HT3.out⟩
theorem from_stops (n : Nat) (w : World) (hb ab : Nat) (a : Option Addr) (h1 : w.cell? ⟨hb, 0, none⟩ = some (.int .u64 1)) (h2 : w.cell? ⟨ab, 0, none⟩ = some (.pointer a)) (hn : NoA w (.pointer a)) (encs : Empty → Array Value) (Kp : World → World → Prop) :
    SeqStopsK Fence.wide n Tryz.prog 32 #[.pointer (some ⟨hb, 0, none⟩), .pointer (some ⟨ab, 0, none⟩)] encs Kp (fun xs => xs = []) (fun _ => False) 0 w := by
  intro l J Jx W hB hJ hJx hY h0
  have t := Turn.of_below hB
  refine callsIn_wide.2 ((iter53 W (.func (.yield l) #[] #[]) hb ab a (t.keep h1 (fun q => q)) (t.keep h2 (fun q => q)) (hn.turn t)).mono ?_)
  rintro e W' ⟨hv, t'⟩
  exact ⟨hv, .inl ⟨[], rfl, hJ [] W W' none h0 t'.grown_no (fun r e => by cases e)⟩⟩
end Go.Proofs.YtghffngipcbkoaaGreatDoor
