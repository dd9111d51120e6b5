/-
  Joined: WCg3.
-/
import Derived.Test.YtflnjlbafchnaaaGreatDoorQ19
/-
  Cells: handOver, hasWritten (the program).
-/
namespace Go.Proofs.YtflnjlbafchnaaaGreatDoor
open Go.RowKit

set_option maxRecDepth 100000 in
set_option maxHeartbeats 4000000 in
theorem handOver_any (w : World) (b : Nat) (j : Jb) (K : Jn) (h : JbAt w b j K) (hh : j.sn.h ≤ 999999) :
    Calls Tryz.prog 127 #[.pointer (some ⟨b, 0, none⟩)] w (JPost w b j.handOver) := by
  have q4 : w.cell? ⟨b, 4, none⟩ = some (.int .i64 j.tg) := blk_at h 4 rfl
  have q6 : w.cell? ⟨b, 6, none⟩ = some (.int .i64 j.at') := blk_at h 6 rfl
  have q15 : w.cell? ⟨b, 15, none⟩ = some (.int .i64 j.sn.h) := blk_at h 15 rfl
  have hlt : b < w.heap.size := lt_of_block h
  obtain ⟨u, Hu⟩ : ∃ u, Hid (u = j.handOver) := ⟨_, rfl⟩
  rw [← Hu.out]
  have HJ : Hid (JbAt w b j K) := h
  clear h
  by_cases c1 : j.tg = j.at'
  · have hu : u = j.finK 1 := by rw [Hu.out]; exact if_pos c1
    have EN := endWith_any w.drew b j K HJ.out.drew 1
    rw [← hu] at EN
    have hc : ((j.tg : Int) == (j.at' : Int)) = true := by rw [c1]; simp
    clear hu c1
    go_enter Tryz.func127, Tryz.ntmps127
    go_wp2
    go_region
    all_goals
      go_wp2_with fail
      go_fit EN
      rintro _ w1 ⟨rfl, h1, k1⟩
      have HY : Hid ((∃ K, JbAt w1 b u K) ∧ Kept (One b) w w1) := ⟨h1, (Kept.refl _ _).drew.trans k1⟩
      clear h1 k1
      go_wp2
      go_end0
      exact ⟨rfl, HY.out⟩
  · have hc : ((j.tg : Int) == (j.at' : Int)) = false := by simp; omega
    by_cases c2 : j.sn.h = 999999
    · have hu : u = j.finK 4 := by rw [Hu.out]; unfold Jb.handOver; rw [if_neg c1, if_pos c2]
      have EN := endWith_any w.drew b j K HJ.out.drew 4
      rw [← hu] at EN
      have q15d : w.drew.cell? ⟨b, 15, none⟩ = some (.int .i64 j.sn.h) := blk_at HJ.out.drew 15 rfl
      have hc2 : ((j.sn.h : Int) == 999999) = true := by rw [c2]; simp
      clear hu c1 c2
      go_enter Tryz.func127, Tryz.ntmps127
      go_wp2
      go_region
      all_goals
        go_wp2_with fail
        go_fit EN
        rintro _ w1 ⟨rfl, h1, k1⟩
        have HY : Hid ((∃ K, JbAt w1 b u K) ∧ Kept (One b) w w1) := ⟨h1, (Kept.refl _ _).drew.trans k1⟩
        clear h1 k1
        go_wp2
        go_end0
        exact ⟨rfl, HY.out⟩
    · have hu : u = { j with nx := j.sn.towards j.tg, ph := 2 } := by rw [Hu.out]; unfold Jb.handOver; rw [if_neg c1, if_neg c2]
      have HU2 : Hid (u = { j with nx := j.sn.towards j.tg, ph := 2 }) := hu
      have q15d : w.drew.cell? ⟨b, 15, none⟩ = some (.int .i64 j.sn.h) := blk_at HJ.out.drew 15 rfl
      have hc2 : ((j.sn.h : Int) == 999999) = false := by simp; omega
      have TW := fun X => towards_any j.sn j.tg hh X
      unfold ceV at TW
      obtain ⟨c, Hc⟩ : ∃ c, Hid (c = j.sn.towards j.tg) := ⟨_, rfl⟩
      rw [← Hc.out] at TW HU2
      have SS : ∀ X, Kept Nil w X → X.cell? ⟨b, 12, none⟩ = some (.string (bs j.sn.v)) ∧ X.cell? ⟨b, 13, none⟩ = some (.int .i64 j.sn.n) ∧ X.cell? ⟨b, 14, none⟩ = some (.int .i64 j.sn.s) ∧ X.cell? ⟨b, 15, none⟩ = some (.int .i64 j.sn.h) ∧ X.cell? ⟨b, 16, none⟩ = some (.int .i64 j.sn.g) ∧ X.cell? ⟨b, 4, none⟩ = some (.int .i64 j.tg) := fun X kX =>
        ⟨blk_at (HJ.out.kept kX) 12 rfl, blk_at (HJ.out.kept kX) 13 rfl, blk_at (HJ.out.kept kX) 14 rfl, blk_at (HJ.out.kept kX) 15 rfl, blk_at (HJ.out.kept kX) 16 rfl, blk_at (HJ.out.kept kX) 4 rfl⟩
      obtain ⟨e12, e13, e14, e15, e16, e4⟩ := SS w.drew (Kept.refl _ _).drew
      clear hu c1 c2 SS
      go_enter Tryz.func127, Tryz.ntmps127
      go_wp2
      go_region
      all_goals
        go_upto_region 0 with fail
        go_region_with (go_at_call 158; go_must (go_fit (TW _)); rintro _ wa ⟨rfl, ka⟩; have Ka : Hid (Kept Nil w wa) := (by first | exact ((Kept.refl _ _).drew).trans ka | exact ((Kept.refl _ _).drew.drew).trans ka); have HJa : Hid (JbAt wa b j K) := HJ.out.kept Ka.out; clear ka; have n18 : wa.cell? ⟨b, 18, none⟩ = some (.string (bs j.nx.v)) := blk_at HJa.out 18 rfl; have n19 : wa.cell? ⟨b, 19, none⟩ = some (.int .i64 j.nx.n) := blk_at HJa.out 19 rfl; have n20 : wa.cell? ⟨b, 20, none⟩ = some (.int .i64 j.nx.s) := blk_at HJa.out 20 rfl; have n21 : wa.cell? ⟨b, 21, none⟩ = some (.int .i64 j.nx.h) := blk_at HJa.out 21 rfl; have n22 : wa.cell? ⟨b, 22, none⟩ = some (.int .i64 j.nx.g) := blk_at HJa.out 22 rfl; have o18 := blk_free HJa.out 18; have o19 := blk_free HJa.out 19; have o20 := blk_free HJa.out 20; have o21 := blk_free HJa.out 21; have o22 := blk_free HJa.out 22; (try (unfold ceV)))
        all_goals
          obtain ⟨Y, hY⟩ : ∃ Y, Y = (((((wa.setCell ⟨b, 18, none⟩ (.string (bs c.v))).setCell ⟨b, 19, none⟩ (.int .i64 c.n)).setCell ⟨b, 20, none⟩ (.int .i64 c.s)).setCell ⟨b, 21, none⟩ (.int .i64 c.h)).setCell ⟨b, 22, none⟩ (.int .i64 c.g)) := ⟨_, rfl⟩
          rw [← hY]
          have HJY : Hid (JbAt Y b { j with nx := c } K) := by rw [hY]; exact HJa.out.nx5 c
          have KY : Hid (Kept (One b) w Y) := by rw [hY]; exact ((((((kept_oneN Ka.out).setCell (p := ⟨b, 18, none⟩) (fun _ => rfl) _).setCell (p := ⟨b, 19, none⟩) (fun _ => rfl) _).setCell (p := ⟨b, 20, none⟩) (fun _ => rfl) _).setCell (p := ⟨b, 21, none⟩) (fun _ => rfl) _).setCell (p := ⟨b, 22, none⟩) (fun _ => rfl) _)
          clear hY n18 n19 n20 n21 n22 o18 o19 o20 o21 o22
          have q11 : Y.cell? ⟨b, 11, none⟩ = some (.int .i64 j.ph) := blk_at HJY.out 11 rfl
          have f11 : Y.frozen? ⟨b, 11, none⟩ = false := blk_free HJY.out 11
          obtain ⟨Z, hZ⟩ : ∃ Z, Z = Y.setCell ⟨b, 11, none⟩ (.int .i64 2) := ⟨_, rfl⟩
          have HZ : Hid ((∃ K, JbAt Z b u K) ∧ Kept (One b) w Z) := by
            rw [hZ, HU2.out]
            exact ⟨⟨_, HJY.out.s11 2⟩, (KY.out.setCell (p := ⟨b, 11, none⟩) (fun _ => rfl) _)⟩
          go_wp2
          rw [← hZ]
          go_end0
          exact ⟨rfl, HZ.out⟩
end Go.Proofs.YtflnjlbafchnaaaGreatDoor
