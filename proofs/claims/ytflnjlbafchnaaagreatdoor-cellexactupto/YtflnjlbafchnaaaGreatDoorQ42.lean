/-
  Joined: WCg2.
-/
import Derived.Test.YtflnjlbafchnaaaGreatDoorQ19
import Derived.Test.YtflnjlbafchnaaaGreatDoorQ34
import Derived.StillTailTactics
/-
  Cells: hasLooked, handOver, hasWritten (the program).
-/
namespace Go.Proofs.YtflnjlbafchnaaaGreatDoor
open Go.RowKit

set_option maxRecDepth 100000 in
set_option maxHeartbeats 4000000 in
theorem hasLooked_any (w : World) (b : Nat) (j : Jb) (K : Jn) (h : JbAt w b j K) (r : Rr) (ko : Option Addr) (kc : Nat) (hr : r.v.length < 4294967281) (hw : 14 ≤ w.heap.size) (hL : LW w) :
    Calls Tryz.prog 89 #[.pointer (some ⟨b, 0, none⟩), rrV r ko kc] w (JPost w b (j.hasLooked r)) := by
  obtain ⟨W, hW⟩ : ∃ W, W = w.alloc (.cells #[.int .i64 r.kd, .string (bs r.v), .int .i64 r.n, .slice ko r.ks.length kc] 50) := ⟨_, rfl⟩
  obtain ⟨A, HAe⟩ : ∃ A, Hid (A = w.heap.size) := ⟨_, rfl⟩
  have KW : Hid (Kept Nil w W) := by rw [hW]; exact (Kept.refl _ _).alloc _
  have HA : Hid (W.heap[A]? = some (.cells #[.int .i64 r.kd, .string (bs r.v), .int .i64 r.n, .slice ko r.ks.length kc] 50 (0, 0))) := by rw [hW, HAe.out]; exact blk_new _ _
  have HJ : Hid (JbAt W b j K) := h.kept KW.out
  have hlb : b < W.heap.size := lt_of_block HJ.out
  have hlA : A < W.heap.size := lt_of_block HA.out
  have hbA : b ≠ A := by rw [HAe.out]; have := lt_of_block h; omega
  have hAb : A ≠ b := fun e => hbA e.symm
  have a0 : W.cell? ⟨A, 0, none⟩ = some (.int .i64 r.kd) := blk_at HA.out 0 rfl
  have a1 : W.cell? ⟨A, 1, none⟩ = some (.string (bs r.v)) := blk_at HA.out 1 rfl
  have a2 : W.cell? ⟨A, 2, none⟩ = some (.int .i64 r.n) := blk_at HA.out 2 rfl
  have a3 : W.cell? ⟨A, 3, none⟩ = some (.slice ko r.ks.length kc) := blk_at HA.out 3 rfl
  obtain ⟨u, Hu⟩ : ∃ u, Hid (u = j.hasLooked r) := ⟨_, rfl⟩
  rw [← Hu.out]
  have HLW : Hid (LW W) := hL.kept KW.out
  have HW20 : Hid (14 ≤ W.heap.size) := Nat.le_trans hw KW.out.size
  have IL := isLost_any r ko kc W
  clear h hL
  unfold rrV at IL ⊢
  go_enter Tryz.func89, Tryz.ntmps89
  go_upto_region 1 with fail
  rw [← hW, ← HAe.out]
  clear hW
  go_wp2_with fail
  go_fit IL
  rintro _ w1 ⟨rfl, k1⟩
  have HJ1 : Hid (JbAt w1 b j K) := HJ.out.kept k1
  have HA1 : Hid (w1.heap[A]? = some (.cells #[.int .i64 r.kd, .string (bs r.v), .int .i64 r.n, .slice ko r.ks.length kc] 50 (0, 0))) := k1.block _ _ HA.out (fun x => x)
  have K1 : Hid (Kept Nil w w1) := KW.out.trans k1
  have HL1 : Hid (LW w1) := HLW.out.kept k1
  have HW1 : Hid (14 ≤ w1.heap.size) := Nat.le_trans HW20.out k1.size
  clear IL k1 a0 a1 a2 a3 hlb hlA
  by_cases c5 : 5 < r.kd
  · have hu : u = j := by rw [Hu.out]; exact if_pos c5
    rw [decide_eq_true c5]
    clear c5
    go_wp2
    rw [hu]
    exact bodyPost_ret (results_none rfl _ _ _) rfl ⟨rfl, ⟨K, HJ1.out⟩, kept_oneN K1.out⟩
  · rw [decide_eq_false c5]
    have C5 : Hid (¬ 5 < r.kd) := c5
    clear c5
    have hlb : b < w1.heap.size := lt_of_block HJ1.out
    have hlA : A < w1.heap.size := lt_of_block HA1.out
    have a0 : w1.cell? ⟨A, 0, none⟩ = some (.int .i64 r.kd) := blk_at HA1.out 0 rfl
    have a1 : w1.cell? ⟨A, 1, none⟩ = some (.string (bs r.v)) := blk_at HA1.out 1 rfl
    have a2 : w1.cell? ⟨A, 2, none⟩ = some (.int .i64 r.n) := blk_at HA1.out 2 rfl
    have a3 : w1.cell? ⟨A, 3, none⟩ = some (.slice ko r.ks.length kc) := blk_at HA1.out 3 rfl
    have q16 : w1.cell? ⟨b, 16, none⟩ = some (.int .i64 j.sn.g) := blk_at HJ1.out 16 rfl
    have SW := fun (X : World) (kX : Kept Nil w1 X) => saw_any j.sn.g r ko kc X hr (Nat.le_trans HW1.out kX.size) (HL1.out.kept kX)
    obtain ⟨c, Hc⟩ : ∃ c, Hid (c = sawC j.sn.g r) := ⟨_, rfl⟩
    obtain ⟨m, Hm⟩ : ∃ m, Hid (m = versR r) := ⟨_, rfl⟩
    rw [← Hc.out, ← Hm.out] at SW
    unfold rrV at SW
    have SS : ∀ X, Kept Nil w1 X → X.cell? ⟨b, 16, none⟩ = some (.int .i64 j.sn.g) ∧ X.cell? ⟨A, 0, none⟩ = some (.int .i64 r.kd) ∧ X.cell? ⟨A, 1, none⟩ = some (.string (bs r.v)) ∧ X.cell? ⟨A, 2, none⟩ = some (.int .i64 r.n) ∧ X.cell? ⟨A, 3, none⟩ = some (.slice ko r.ks.length kc) := fun X kX =>
      ⟨blk_at (HJ1.out.kept kX) 16 rfl, blk_at (kX.block _ _ HA1.out (fun x => x)) 0 rfl, blk_at (kX.block _ _ HA1.out (fun x => x)) 1 rfl, blk_at (kX.block _ _ HA1.out (fun x => x)) 2 rfl, blk_at (kX.block _ _ HA1.out (fun x => x)) 3 rfl⟩
    have ss := SS w1 (Kept.refl _ _)
    go_upto_region 2 with fail
    go_region_with (go_at_call 125; first | (go_fit (SW w1.drew ((Kept.refl _ _).drew)); rintro _ wa ⟨rfl, ka⟩; have Ka : Hid (Kept Nil w1 wa) := ((Kept.refl _ _).drew).trans ka; clear ka; unfold siV) | (go_fit (SW (w1.alloc (.cells #[.string ⟨#[]⟩, .int .i64 0, .int .i64 0, .int .i64 0, .int .i64 0, .int .i64 0] 133)).drew (((Kept.refl _ _).alloc _).drew)); rintro _ wa ⟨rfl, ka⟩; have Ka : Hid (Kept Nil w1 wa) := (((Kept.refl _ _).alloc _).drew).trans ka; have HN9 : Hid (SiAt wa w1.heap.size ceZ 0) := ka.block _ _ (blk_new w1 _) (fun x => x); clear ka; have n0 : wa.cell? ⟨w1.heap.size, 0, none⟩ = some (.string ⟨#[]⟩) := blk_at HN9.out 0 rfl; have n1 : wa.cell? ⟨w1.heap.size, 1, none⟩ = some (.int .i64 0) := blk_at HN9.out 1 rfl; have n2 : wa.cell? ⟨w1.heap.size, 2, none⟩ = some (.int .i64 0) := blk_at HN9.out 2 rfl; have n3 : wa.cell? ⟨w1.heap.size, 3, none⟩ = some (.int .i64 0) := blk_at HN9.out 3 rfl; have n4 : wa.cell? ⟨w1.heap.size, 4, none⟩ = some (.int .i64 0) := blk_at HN9.out 4 rfl; have n5 : wa.cell? ⟨w1.heap.size, 5, none⟩ = some (.int .i64 0) := blk_at HN9.out 5 rfl; have o0 := blk_free HN9.out 0; have o1 := blk_free HN9.out 1; have o2 := blk_free HN9.out 2; have o3 := blk_free HN9.out 3; have o4 := blk_free HN9.out 4; have o5 := blk_free HN9.out 5; unfold siV))
    all_goals
      first
        | (obtain ⟨X, hX⟩ : ∃ X, X = wa.alloc (.cells #[.string (bs c.v), .int .i64 c.n, .int .i64 c.s, .int .i64 c.h, .int .i64 c.g, .int .i64 m] 133) := ⟨_, rfl⟩; rw [← hX]; have HS : Hid (SiAt X wa.heap.size c m ∧ Kept Nil w1 X) := (by rw [hX]; exact ⟨blk_new _ _, Ka.out.alloc _⟩); have HGw : Hid (w1.heap.size ≤ wa.heap.size) := Ka.out.size; obtain ⟨G, HG⟩ : ∃ G, Hid (G = wa.heap.size) := ⟨_, rfl⟩; rw [← HG.out] at HS HGw ⊢; clear hX)
        | (obtain ⟨X, hX⟩ : ∃ X, X = (((((wa.setCell ⟨w1.heap.size, 0, none⟩ (.string (bs c.v))).setCell ⟨w1.heap.size, 1, none⟩ (.int .i64 c.n)).setCell ⟨w1.heap.size, 2, none⟩ (.int .i64 c.s)).setCell ⟨w1.heap.size, 3, none⟩ (.int .i64 c.h)).setCell ⟨w1.heap.size, 4, none⟩ (.int .i64 c.g)).setCell ⟨w1.heap.size, 5, none⟩ (.int .i64 m) := ⟨_, rfl⟩; rw [← hX]; have HS : Hid (SiAt X w1.heap.size c m ∧ Kept Nil w1 X) := (by rw [hX]; exact ⟨HN9.out.set c m, kept6 Ka.out (Nat.le_refl _) _ _ _ _ _ _⟩); have HGw : Hid (w1.heap.size ≤ w1.heap.size) := Nat.le_refl _; clear hX n0 n1 n2 n3 n4 n5; obtain ⟨G, HG⟩ : ∃ G, Hid (G = w1.heap.size) := ⟨_, rfl⟩; rw [← HG.out] at HS HGw ⊢)
      have HJX : Hid (JbAt X b j K) := HJ1.out.kept HS.out.2
      have hGb : G ≠ b := by have := HGw.out; have := HG.out; have := lt_of_block HJ1.out; omega
      have hbG : b ≠ G := fun e => hGb e.symm
      clear q16 a0 a1 a2 a3
      have g5 : X.cell? ⟨G, 5, none⟩ = some (.int .i64 m) := blk_at HS.out.1 5 rfl
      have q27 : X.cell? ⟨b, 27, none⟩ = some (.int .i64 j.sp) := blk_at HJX.out 27 rfl
      have q11 : X.cell? ⟨b, 11, none⟩ = some (.int .i64 j.ph) := blk_at HJX.out 11 rfl
      have f27 : X.frozen? ⟨b, 27, none⟩ = false := blk_free HJX.out 27
      have f11 : X.frozen? ⟨b, 11, none⟩ = false := blk_free HJX.out 11
      obtain ⟨Y, hY⟩ : ∃ Y, Y = (X.setCell ⟨b, 27, none⟩ (.int .i64 m)).setCell ⟨b, 11, none⟩ (.int .i64 6) := ⟨_, rfl⟩
      have HJY : Hid (JbAt Y b { j with sp := m, ph := 6 } K) := by rw [hY]; exact (HJX.out.s27 m).s11 6
      have KY : Hid (Kept (One b) w Y) := by rw [hY]; exact (((kept_oneN (K1.out.trans HS.out.2)).setCell (p := ⟨b, 27, none⟩) (fun _ => rfl) _).setCell (p := ⟨b, 11, none⟩) (fun _ => rfl) _)
      have HGY : Hid (SiAt Y G c m) := by rw [hY]; exact blk_other (a := ⟨b, 11, none⟩) (blk_other (a := ⟨b, 27, none⟩) HS.out.1 hGb _) hGb _
      go_upto_region 4 with fail
      rw [← hY]
      clear hY g5 q27 q11 f27 f11
      have g3 : Y.cell? ⟨G, 3, none⟩ = some (.int .i64 c.h) := blk_at HGY.out 3 rfl
      have q15 : Y.cell? ⟨b, 15, none⟩ = some (.int .i64 j.sn.h) := blk_at HJY.out 15 rfl
      have q11 : Y.cell? ⟨b, 11, none⟩ = some (.int .i64 6) := blk_at HJY.out 11 rfl
      have f11 : Y.frozen? ⟨b, 11, none⟩ = false := blk_free HJY.out 11
      by_cases cl : c.h < j.sn.h
      · have hcl : (c.h : Int) < j.sn.h := by omega
        obtain ⟨Z, hZ⟩ : ∃ Z, Z = (Y.setCell ⟨b, 11, none⟩ (.int .i64 5)).drew := ⟨_, rfl⟩
        have HZ : Hid ((∃ K, JbAt Z b u K) ∧ Kept (One b) w Z) := by
          rw [hZ, Hu.out]
          unfold Jb.hasLooked
          rw [if_neg (by have := C5.out; omega), ← Hc.out, ← Hm.out, if_pos cl]
          exact ⟨⟨_, (HJY.out.s11 5).drew⟩, (KY.out.setCell (p := ⟨b, 11, none⟩) (fun _ => rfl) _).drew⟩
        clear cl
        go_region
        all_goals
          go_wp2
          rw [← hZ]
          go_end0
          exact ⟨rfl, HZ.out⟩
      · have hcl : ¬ (c.h : Int) < j.sn.h := by omega
        have HZ : Hid ((∃ K, JbAt Y.drew b u K) ∧ Kept (One b) w Y.drew) := by
          rw [Hu.out]
          unfold Jb.hasLooked
          rw [if_neg (by have := C5.out; omega), ← Hc.out, ← Hm.out, if_neg cl]
          exact ⟨⟨_, HJY.out.drew⟩, KY.out.drew⟩
        clear cl
        go_region
        all_goals
          go_wp2
          go_end0
          exact ⟨rfl, HZ.out⟩
end Go.Proofs.YtflnjlbafchnaaaGreatDoor
