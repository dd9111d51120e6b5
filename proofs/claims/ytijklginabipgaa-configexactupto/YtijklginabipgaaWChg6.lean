/-
  One operation on a draft: a learner more, unless it votes still.
-/
import Derived.Test.YtijklginabipgaaWChg4
import Derived.Deep.RegionWith
namespace Go.Proofs.Ytijklginabipgaa
open Go.RowKit

set_option maxRecDepth 100000 in
set_option maxHeartbeats 4000000 in
theorem do_old (w0 : World) (bd c1 c2 c3 : Nat) (a1 a2 a3 : Option Addr) (v nx le : List Int) (nd : Int) (w : World) (h : Drf w0 bd a1 a2 a3 c1 c2 c3 v nx le w) (hd : Dr v nx le) (hn : isNd nd = true) (hx : hasZ nx nd = false) (hy : hasZ le nd = false) (hv : hasZ v nd = true) :
    Calls Try.prog 64 #[.pointer (some ⟨bd, 0, none⟩), .agg #[.int .i64 2, .int .i64 nd]] w (DoPost w0 bd a1 c1 v nx le 2 nd w) := by
  have hlen := hd.len
  have HZ : Hid (doZ v nx le 2 nd = none) := by
    show doZ v nx le 2 nd = _
    unfold doZ
    rw [if_neg (by rw [hn]; decide), if_neg (by simp), if_neg (by rw [hv]; simp), if_neg (by simp)]
  have HD : Hid (Drf w0 bd a1 a2 a3 c1 c2 c3 v nx le (w.alloc (.cells #[.int .i64 2, .int .i64 nd] 32))) := h.grown (grown_alloc (grown_refl _ _) _)
  obtain ⟨W, hW⟩ : ∃ W, W = w.alloc (.cells #[.int .i64 2, .int .i64 nd] 32) := ⟨_, rfl⟩
  rw [← hW] at HD
  have HG0 : Hid (w.grownBy W none) := by rw [hW]; exact grown_alloc (grown_refl _ _) _
  have HB : Hid (W.heap[w.heap.size]? = some (.cells #[.int .i64 2, .int .i64 nd] 32 (0, 0))) := by rw [hW]; exact blk_new _ _
  have Q1 := fun m => contains_any _ c2 a2 nx nd (W.drewN m) ((HD.out.o2.row).nil ((Kept.refl _ _).drewN _)) (by omega)
  have Q2 := fun m => contains_any _ c3 a3 le nd (W.drewN m) ((HD.out.o3.row).nil ((Kept.refl _ _).drewN _)) (by omega)
  have Q3 := fun m => contains_any _ c1 a1 v nd (W.drewN m) ((HD.out.o1.row).nil ((Kept.refl _ _).drewN _)) (by omega)
  rw [hx] at Q1
  rw [hy] at Q2
  rw [hv] at Q3
  have IN := fun w' => isNode_any nd w'
  rw [hn] at IN
  have p0 : W.cell? ⟨w.heap.size, 0, none⟩ = some (.int .i64 2) := blk_at HB.out 0 rfl
  have p1 : W.cell? ⟨w.heap.size, 1, none⟩ = some (.int .i64 nd) := blk_at HB.out 1 rfl
  have q0 : W.cell? ⟨bd, 0, none⟩ = some (.slice a1 v.length c1) := blk_at HD.out.blk 0 rfl
  have q1 : W.cell? ⟨bd, 1, none⟩ = some (.slice a2 nx.length c2) := blk_at HD.out.blk 1 rfl
  have q2 : W.cell? ⟨bd, 2, none⟩ = some (.slice a3 le.length c3) := blk_at HD.out.blk 2 rfl
  clear h hd hn hx hy hv
  go_enter Try.func64, Try.ntmps64
  go_wp2
  rw [← hW]
  clear hW
  go_quiet (first | (go_at_call 79; first | exact Calls.quiet_of_same (Q1 _) | exact Calls.quiet_of_same (Q2 _)))
  generalize hwd : W.drewN _ = wd
  have HDd : Hid (Drf w0 bd a1 a2 a3 c1 c2 c3 v nx le wd) := by rw [← hwd]; exact HD.out.grown (grown_drewN (grown_refl _ _) _)
  have HGd : Hid (w.grownBy wd none) := by rw [← hwd]; exact grown_drewN HG0.out _
  have p0 : wd.cell? ⟨w.heap.size, 0, none⟩ = some (.int .i64 2) := by rw [← hwd]; exact p0
  have p1 : wd.cell? ⟨w.heap.size, 1, none⟩ = some (.int .i64 nd) := by rw [← hwd]; exact p1
  have q0 : wd.cell? ⟨bd, 0, none⟩ = some (.slice a1 v.length c1) := by rw [← hwd]; exact q0
  have q1 : wd.cell? ⟨bd, 1, none⟩ = some (.slice a2 nx.length c2) := by rw [← hwd]; exact q1
  have q2 : wd.cell? ⟨bd, 2, none⟩ = some (.slice a3 le.length c3) := by rw [← hwd]; exact q2
  have QV : Calls Try.prog 79 #[.slice a1 v.length c1, .int .i64 nd] wd fun e w' => e = .returned (.bool true) ∧ w' = wd := by rw [← hwd]; exact Q3 _
  clear Q3
  have HB0 : Hid (w0.heap.size ≤ wd.heap.size) := HDd.out.kp.size
  clear hwd HD HB HG0 Q1 Q2
  go_wp2_with fail
  go_fit (IN _)
  rintro e w1 ⟨rfl, rfl⟩
  go_wp2_with fail
  go_fit QV
  rintro e w1 ⟨rfl, rfl⟩
  go_wp2
  go_ret
  exact .inl ⟨HZ.out, rfl, HGd.out⟩

set_option maxRecDepth 100000 in
set_option maxHeartbeats 4000000 in
theorem do_learn (w0 : World) (bd c1 c2 c3 : Nat) (a1 a2 a3 : Option Addr) (v nx le : List Int) (nd : Int) (w : World) (h : Drf w0 bd a1 a2 a3 c1 c2 c3 v nx le w) (hd : Dr v nx le) (hn : isNd nd = true) (hx : hasZ nx nd = false) (hy : hasZ le nd = false) (hv : hasZ v nd = false) :
    Calls Try.prog 64 #[.pointer (some ⟨bd, 0, none⟩), .agg #[.int .i64 2, .int .i64 nd]] w (DoPost w0 bd a1 c1 v nx le 2 nd w) := by
  have hlen := hd.len
  have HZ : Hid (doZ v nx le 2 nd = some (nx, insZ nd le)) := by
    show doZ v nx le 2 nd = _
    unfold doZ
    rw [if_neg (by rw [hn]; decide), if_neg (by simp), if_pos ⟨rfl, hx, hy, hv⟩]
  have HD : Hid (Drf w0 bd a1 a2 a3 c1 c2 c3 v nx le (w.alloc (.cells #[.int .i64 2, .int .i64 nd] 32))) := h.grown (grown_alloc (grown_refl _ _) _)
  have HU : Hid (le.Pairwise (· < ·)) := hd.ll.up
  obtain ⟨W, hW⟩ : ∃ W, W = w.alloc (.cells #[.int .i64 2, .int .i64 nd] 32) := ⟨_, rfl⟩
  rw [← hW] at HD
  have HG0 : Hid (w.grownBy W none) := by rw [hW]; exact grown_alloc (grown_refl _ _) _
  have HB : Hid (W.heap[w.heap.size]? = some (.cells #[.int .i64 2, .int .i64 nd] 32 (0, 0))) := by rw [hW]; exact blk_new _ _
  have Q1 := fun m => contains_any _ c2 a2 nx nd (W.drewN m) ((HD.out.o2.row).nil ((Kept.refl _ _).drewN _)) (by omega)
  have Q2 := fun m => contains_any _ c3 a3 le nd (W.drewN m) ((HD.out.o3.row).nil ((Kept.refl _ _).drewN _)) (by omega)
  have Q3 := fun m => contains_any _ c1 a1 v nd (W.drewN m) ((HD.out.o1.row).nil ((Kept.refl _ _).drewN _)) (by omega)
  rw [hx] at Q1
  rw [hy] at Q2
  rw [hv] at Q3
  have IN := fun w' => isNode_any nd w'
  rw [hn] at IN
  have p0 : W.cell? ⟨w.heap.size, 0, none⟩ = some (.int .i64 2) := blk_at HB.out 0 rfl
  have p1 : W.cell? ⟨w.heap.size, 1, none⟩ = some (.int .i64 nd) := blk_at HB.out 1 rfl
  have q0 : W.cell? ⟨bd, 0, none⟩ = some (.slice a1 v.length c1) := blk_at HD.out.blk 0 rfl
  have q1 : W.cell? ⟨bd, 1, none⟩ = some (.slice a2 nx.length c2) := blk_at HD.out.blk 1 rfl
  have q2 : W.cell? ⟨bd, 2, none⟩ = some (.slice a3 le.length c3) := blk_at HD.out.blk 2 rfl
  clear h hd hn hx hy hv
  go_enter Try.func64, Try.ntmps64
  go_wp2
  rw [← hW]
  clear hW
  go_quiet (first | (go_at_call 79; first | exact Calls.quiet_of_same (Q1 _) | exact Calls.quiet_of_same (Q2 _)))
  generalize hwd : W.drewN _ = wd
  have HDd : Hid (Drf w0 bd a1 a2 a3 c1 c2 c3 v nx le wd) := by rw [← hwd]; exact HD.out.grown (grown_drewN (grown_refl _ _) _)
  have HGd : Hid (w.grownBy wd none) := by rw [← hwd]; exact grown_drewN HG0.out _
  have p0 : wd.cell? ⟨w.heap.size, 0, none⟩ = some (.int .i64 2) := by rw [← hwd]; exact p0
  have p1 : wd.cell? ⟨w.heap.size, 1, none⟩ = some (.int .i64 nd) := by rw [← hwd]; exact p1
  have q0 : wd.cell? ⟨bd, 0, none⟩ = some (.slice a1 v.length c1) := by rw [← hwd]; exact q0
  have q1 : wd.cell? ⟨bd, 1, none⟩ = some (.slice a2 nx.length c2) := by rw [← hwd]; exact q1
  have q2 : wd.cell? ⟨bd, 2, none⟩ = some (.slice a3 le.length c3) := by rw [← hwd]; exact q2
  have QV : Calls Try.prog 79 #[.slice a1 v.length c1, .int .i64 nd] wd fun e w' => e = .returned (.bool false) ∧ w' = wd := by rw [← hwd]; exact Q3 _
  clear Q3
  have HB0 : Hid (w0.heap.size ≤ wd.heap.size) := HDd.out.kp.size
  clear hwd HD HB HG0 Q1 Q2
  go_wp2_with fail
  go_fit (IN _)
  rintro e w1 ⟨rfl, rfl⟩
  go_wp2_with fail
  go_fit QV
  rintro e w1 ⟨rfl, rfl⟩
  go_wp2_with fail
  go_fit (with_any _ c3 a3 le nd w1 HDd.out.o3 HB0.out HU.out (by omega))
  rintro e wb ⟨x3, y3, rfl, ob, gb, lb⟩
  have OB : Hid (OwnInts w0.heap.size wb x3 y3 (insZ nd le)) := ob
  have GB : Hid (w1.grownBy wb (Value.slice a3 le.length c3).ownBlock) := gb
  have LB : Hid (∀ g, (Value.slice x3 (insZ nd le).length y3).ownBlock = some g → (Value.slice a3 le.length c3).ownBlock = some g ∨ w1.heap.size ≤ g) := lb
  have BB : Hid (wb.heap[bd]? = some (.cells #[.slice a1 v.length c1, .slice a2 nx.length c2, .slice a3 le.length c3] 94 (0, 0))) := by { show _ = _; rw [GB.out.block bd (lt_of_block HDd.out.blk) (fun e => HDd.out.n3 e.symm)]; exact HDd.out.blk }
  have s1 : wb.cell? ⟨bd, 1, none⟩ = some (.slice a2 nx.length c2) := blk_at BB.out 1 rfl
  have s2 : wb.cell? ⟨bd, 2, none⟩ = some (.slice a3 le.length c3) := blk_at BB.out 2 rfl
  have f2 : wb.frozen? ⟨bd, 2, none⟩ = false := blk_free BB.out 2
  clear ob gb lb
  go_wp2
  go_ret
  exact .inr ⟨_, _, HZ.out, rfl, a2, x3, c2, y3, HDd.out.learn OB.out GB.out LB.out⟩

end Go.Proofs.Ytijklginabipgaa
