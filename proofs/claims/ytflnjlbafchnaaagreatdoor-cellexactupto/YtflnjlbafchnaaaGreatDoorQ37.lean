/-
  Joined: WCg7.
-/
import Derived.Test.YtflnjlbafchnaaaGreatDoorQ19
import Derived.Test.YtflnjlbafchnaaaGreatDoorQ33
/-
  Cells: swapCommand, Next (the program).
-/
namespace Go.Proofs.YtflnjlbafchnaaaGreatDoor
open Go.RowKit

theorem gput4 {w : World} {R : Nat} {t : TypeId} {p0 p1 p2 p3 x0 x1 x2 x3 : Value} (h : w.heap[R]? = some (.cells #[p0, p1, p2, p3] t (0, 0))) : ((((w.setCell ⟨R, 0, none⟩ x0).setCell ⟨R, 1, none⟩ x1).setCell ⟨R, 2, none⟩ x2).setCell ⟨R, 3, none⟩ x3).heap[R]? = some (.cells #[x0, x1, x2, x3] t (0, 0)) := by
  have h0 := blk_set h 0 x0
  have h1 := blk_set h0 1 x1
  have h2 := blk_set h1 2 x2
  have h3 := blk_set h2 3 x3
  simpa using h3
set_option maxRecDepth 100000 in
set_option maxHeartbeats 4000000 in
theorem cswap_any (k : List UInt8) (c : Ce) (m : Int) (w : World) (hk : k.length ≤ 1000) (hc : c.Ok) (hL : LW w) :
    Calls Tryz.prog 78 #[.string (bs k), ceV c, .int .i64 m] w fun e w' => e = .returned (cdV (swapC (cKey k) (ceTxt c) m)) ∧ Kept Nil w w' := by
  obtain ⟨W, hW⟩ : ∃ W, W = (w.alloc (.cells #[.string (bs c.v), .int .i64 c.n, .int .i64 c.s, .int .i64 c.h, .int .i64 c.g] 131)).alloc (.cells #[.int .i64 0, .string ⟨#[]⟩, .string ⟨#[]⟩, .int .i64 0] 31) := ⟨_, rfl⟩
  obtain ⟨R, HRe⟩ : ∃ A, Hid (A = w.heap.size + 1) := ⟨_, rfl⟩
  obtain ⟨A, HAe⟩ : ∃ A, Hid (A = w.heap.size) := ⟨_, rfl⟩
  have KW : Hid (Kept Nil w W) := by rw [hW]; exact ((Kept.refl _ _).alloc _).alloc _
  have HA : Hid (CeAt W A c) := by rw [hW, HAe.out]; exact blk_past (blk_new _ _) _
  have HR : Hid (W.heap[R]? = some (.cells #[.int .i64 0, .string ⟨#[]⟩, .string ⟨#[]⟩, .int .i64 0] 31 (0, 0))) := by rw [hW, HRe.out]; exact blk_new1 _ _ _
  have HRw : Hid (w.heap.size ≤ R) := by show _ ≤ _; rw [HRe.out]; omega
  have HLW : Hid (LW W) := hL.kept KW.out
  have CK := fun X => cellKey_any k (by omega) X
  have TX := fun (X : World) (kX : Kept Nil W X) => text_any c X hc (HLW.out.kept kX)
  unfold ceV at TX
  obtain ⟨t, Ht⟩ : ∃ t, Hid (t = ceTxt c) := ⟨_, rfl⟩
  obtain ⟨y, Hy⟩ : ∃ t, Hid (t = cKey k) := ⟨_, rfl⟩
  rw [← Ht.out] at TX ⊢
  rw [← Hy.out]
  have CK' : ∀ X, Calls Tryz.prog 122 #[.string (bs k)] X fun e w' => e = .returned (.string (bs y)) ∧ w' = X := fun X => by rw [Hy.out]; exact CK X
  clear CK hL
  have a0 : W.cell? ⟨A, 0, none⟩ = some (.string (bs c.v)) := blk_at HA.out 0 rfl
  have a1 : W.cell? ⟨A, 1, none⟩ = some (.int .i64 c.n) := blk_at HA.out 1 rfl
  have a2 : W.cell? ⟨A, 2, none⟩ = some (.int .i64 c.s) := blk_at HA.out 2 rfl
  have a3 : W.cell? ⟨A, 3, none⟩ = some (.int .i64 c.h) := blk_at HA.out 3 rfl
  have a4 : W.cell? ⟨A, 4, none⟩ = some (.int .i64 c.g) := blk_at HA.out 4 rfl
  have hlA : A < W.heap.size := lt_of_block HA.out
  have hlR : R < W.heap.size := lt_of_block HR.out
  unfold ceV
  go_enter Tryz.func78, Tryz.ntmps78
  go_upto_region 1 with fail
  rw [← hW, ← HRe.out, ← HAe.out]
  clear hW
  go_region_with (first | (go_at_call 122; go_must (go_fit (CK' _)); rintro _ wq ⟨rfl, rfl⟩) | (go_at_call 123; go_must (go_fit (TX _ (by repeat (first | exact Kept.refl _ _ | refine Kept.drew ?_)))); rintro _ wa ⟨rfl, ka⟩; have Ka : Hid (Kept Nil W wa) := Kept.trans (by repeat (first | exact Kept.refl _ _ | refine Kept.drew ?_)) ka; have HRa : Hid (wa.heap[R]? = some (.cells #[.int .i64 0, .string ⟨#[]⟩, .string ⟨#[]⟩, .int .i64 0] 31 (0, 0))) := Ka.out.block _ _ HR.out (fun x => x); clear ka; have n0 : wa.cell? ⟨R, 0, none⟩ = some (.int .i64 0) := blk_at HRa.out 0 rfl; have o0 := blk_free HRa.out 0; have n1 : wa.cell? ⟨R, 1, none⟩ = some (.string ⟨#[]⟩) := blk_at HRa.out 1 rfl; have o1 := blk_free HRa.out 1; have n2 : wa.cell? ⟨R, 2, none⟩ = some (.string ⟨#[]⟩) := blk_at HRa.out 2 rfl; have o2 := blk_free HRa.out 2; have n3 : wa.cell? ⟨R, 3, none⟩ = some (.int .i64 0) := blk_at HRa.out 3 rfl; have o3 := blk_free HRa.out 3))
  all_goals
    obtain ⟨Y, hY⟩ : ∃ Y, Y = (((wa.setCell ⟨R, 0, none⟩ (.int .i64 4)).setCell ⟨R, 1, none⟩ (.string (bs y))).setCell ⟨R, 2, none⟩ (.string (bs t))).setCell ⟨R, 3, none⟩ (.int .i64 m) := ⟨_, rfl⟩
    have HY : Hid (Y.heap[R]? = some (.cells #[.int .i64 4, .string (bs y), .string (bs t), .int .i64 m] 31 (0, 0)) ∧ Kept Nil w Y) := by rw [hY]; exact ⟨gput4 HRa.out, ((((KW.out.trans Ka.out).setNew (p := ⟨R, 0, none⟩) HRw.out _).setNew (p := ⟨R, 1, none⟩) HRw.out _).setNew (p := ⟨R, 2, none⟩) HRw.out _).setNew (p := ⟨R, 3, none⟩) HRw.out _⟩
    go_wp2
    rw [← hY]
    have j0 := blk_at HY.out.1 0 rfl
    have j1 := blk_at HY.out.1 1 rfl
    have j2 := blk_at HY.out.1 2 rfl
    have j3 := blk_at HY.out.1 3 rfl
    exact bodyPost_ret (v := cdV (swapC y t m)) (by simp [results, Tryz.results78, go_sem, j0, j1, j2, j3, cdV, swapC]) rfl ⟨rfl, HY.out.2⟩
end Go.Proofs.YtflnjlbafchnaaaGreatDoor
