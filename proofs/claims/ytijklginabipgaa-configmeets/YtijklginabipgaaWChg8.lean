/-
  One operation on a draft: one node less.
-/
import Derived.Test.YtijklginabipgaaWChg4
import Derived.Deep.RegionWith
namespace Go.Proofs.Ytijklginabipgaa
open Go.RowKit

set_option maxRecDepth 100000 in
set_option maxHeartbeats 4000000 in
theorem do_gone2 (w0 : World) (bd c1 c2 c3 : Nat) (a1 a2 a3 : Option Addr) (v nx le : List Int) (nd : Int) (w : World) (h : Drf w0 bd a1 a2 a3 c1 c2 c3 v nx le w) (hd : Dr v nx le) (hn : isNd nd = true) (hx : hasZ nx nd = false) (hy : hasZ le nd = true) :
    Calls Try.prog 64 #[.pointer (some ⟨bd, 0, none⟩), .agg #[.int .i64 3, .int .i64 nd]] w (DoPost w0 bd a1 c1 v nx le 3 nd w) := by
  have hlen := hd.len
  have HZ : Hid (doZ v nx le 3 nd = some (delZ nd nx, delZ nd le)) := by
    show doZ v nx le 3 nd = _
    unfold doZ
    rw [if_neg (by rw [hn]; decide), if_neg (by simp), if_neg (by simp), if_pos ⟨rfl, .inr hy⟩]
  have HD : Hid (Drf w0 bd a1 a2 a3 c1 c2 c3 v nx le (w.alloc (.cells #[.int .i64 3, .int .i64 nd] 32))) := h.grown (grown_alloc (grown_refl _ _) _)
  obtain ⟨W, hW⟩ : ∃ W, W = w.alloc (.cells #[.int .i64 3, .int .i64 nd] 32) := ⟨_, rfl⟩
  rw [← hW] at HD
  have HG0 : Hid (w.grownBy W none) := by rw [hW]; exact grown_alloc (grown_refl _ _) _
  have HB : Hid (W.heap[w.heap.size]? = some (.cells #[.int .i64 3, .int .i64 nd] 32 (0, 0))) := by rw [hW]; exact blk_new _ _
  have Q1 := fun m => contains_any _ c2 a2 nx nd (W.drewN m) ((HD.out.o2.row).nil ((Kept.refl _ _).drewN _)) (by omega)
  have Q2 := fun m => contains_any _ c3 a3 le nd (W.drewN m) ((HD.out.o3.row).nil ((Kept.refl _ _).drewN _)) (by omega)
  rw [hx] at Q1
  rw [hy] at Q2
  have IN := fun w' => isNode_any nd w'
  rw [hn] at IN
  have p0 : W.cell? ⟨w.heap.size, 0, none⟩ = some (.int .i64 3) := blk_at HB.out 0 rfl
  have p1 : W.cell? ⟨w.heap.size, 1, none⟩ = some (.int .i64 nd) := blk_at HB.out 1 rfl
  have q0 : W.cell? ⟨bd, 0, none⟩ = some (.slice a1 v.length c1) := blk_at HD.out.blk 0 rfl
  have q1 : W.cell? ⟨bd, 1, none⟩ = some (.slice a2 nx.length c2) := blk_at HD.out.blk 1 rfl
  have q2 : W.cell? ⟨bd, 2, none⟩ = some (.slice a3 le.length c3) := blk_at HD.out.blk 2 rfl
  clear h hd hn hx hy
  go_enter Try.func64, Try.ntmps64
  go_wp2
  rw [← hW]
  clear hW
  go_quiet (first | (go_at_call 79; first | exact Calls.quiet_of_same (Q1 _) | exact Calls.quiet_of_same (Q2 _)))
  generalize hwd : W.drewN _ = wd
  have HDd : Hid (Drf w0 bd a1 a2 a3 c1 c2 c3 v nx le wd) := by rw [← hwd]; exact HD.out.grown (grown_drewN (grown_refl _ _) _)
  have HGd : Hid (w.grownBy wd none) := by rw [← hwd]; exact grown_drewN HG0.out _
  have p0 : wd.cell? ⟨w.heap.size, 0, none⟩ = some (.int .i64 3) := by rw [← hwd]; exact p0
  have p1 : wd.cell? ⟨w.heap.size, 1, none⟩ = some (.int .i64 nd) := by rw [← hwd]; exact p1
  have q0 : wd.cell? ⟨bd, 0, none⟩ = some (.slice a1 v.length c1) := by rw [← hwd]; exact q0
  have q1 : wd.cell? ⟨bd, 1, none⟩ = some (.slice a2 nx.length c2) := by rw [← hwd]; exact q1
  have q2 : wd.cell? ⟨bd, 2, none⟩ = some (.slice a3 le.length c3) := by rw [← hwd]; exact q2
  have HB0 : Hid (w0.heap.size ≤ wd.heap.size) := HDd.out.kp.size
  clear hwd HD HB HG0 Q1 Q2
  go_wp2_with fail
  go_fit (IN _)
  rintro e w1 ⟨rfl, rfl⟩
  go_wp2
  go_region_with (go_at_call 134; first | (go_fit (without_any _ c2 a2 nx nd w1.drew (own_heap HDd.out.o2 rfl) (by omega)); rintro e wa ⟨x2, y2, rfl, oa, ga, la⟩; have OA : Hid (OwnInts w0.heap.size wa x2 y2 (delZ nd nx)) := oa; have GA : Hid (w1.grownBy wa (Value.slice a2 nx.length c2).ownBlock) := ⟨ga.os, ga.tape, ga.output, ga.size, ga.block⟩; have LA : Hid (∀ g, (Value.slice x2 (delZ nd nx).length y2).ownBlock = some g → (Value.slice a2 nx.length c2).ownBlock = some g ∨ w1.heap.size ≤ g) := la; have BA : Hid (wa.heap[bd]? = some (.cells #[.slice a1 v.length c1, .slice a2 nx.length c2, .slice a3 le.length c3] 94 (0, 0))) := by { show _ = _; rw [GA.out.block bd (lt_of_block HDd.out.blk) (fun e => HDd.out.n2 e.symm)]; exact HDd.out.blk }; have O3 : Hid (OwnInts w0.heap.size wa a3 c3 le) := HDd.out.o3.far GA.out (fun g hg' e => HDd.out.d23 g e.symm hg'); have t1 : wa.cell? ⟨bd, 1, none⟩ = some (.slice a2 nx.length c2) := blk_at BA.out 1 rfl; have t2 : wa.cell? ⟨bd, 2, none⟩ = some (.slice a3 le.length c3) := blk_at BA.out 2 rfl; clear oa ga la) | (go_fit (without_any _ c3 a3 le nd wa O3.out (by omega)); rintro e wb ⟨x3, y3, rfl, ob, gb, lb⟩; have OB : Hid (OwnInts w0.heap.size wb x3 y3 (delZ nd le)) := ob; have GB : Hid (wa.grownBy wb (Value.slice a3 le.length c3).ownBlock) := ⟨gb.os, gb.tape, gb.output, gb.size, gb.block⟩; have LB : Hid (∀ g, (Value.slice x3 (delZ nd le).length y3).ownBlock = some g → (Value.slice a3 le.length c3).ownBlock = some g ∨ wa.heap.size ≤ g) := lb; have BB : Hid (wb.heap[bd]? = some (.cells #[.slice a1 v.length c1, .slice a2 nx.length c2, .slice a3 le.length c3] 94 (0, 0))) := by { show _ = _; rw [GB.out.block bd (lt_of_block BA.out) (fun e => HDd.out.n3 e.symm)]; exact BA.out }; have s1 : wb.cell? ⟨bd, 1, none⟩ = some (.slice a2 nx.length c2) := blk_at BB.out 1 rfl; have s2 : wb.cell? ⟨bd, 2, none⟩ = some (.slice a3 le.length c3) := blk_at BB.out 2 rfl; have f1 : wb.frozen? ⟨bd, 1, none⟩ = false := blk_free BB.out 1; have f2 : wb.frozen? ⟨bd, 2, none⟩ = false := blk_free BB.out 2; clear ob gb lb))
  all_goals
    go_wp2
    go_ret
    exact .inr ⟨_, _, HZ.out, rfl, x2, x3, y2, y3, HDd.out.both OA.out GA.out LA.out OB.out GB.out LB.out⟩

end Go.Proofs.Ytijklginabipgaa
