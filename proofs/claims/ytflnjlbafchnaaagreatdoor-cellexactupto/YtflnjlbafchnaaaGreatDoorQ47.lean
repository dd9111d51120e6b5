/-
  Joined: WCg6, WCg4.
-/
import Derived.Test.YtflnjlbafchnaaaGreatDoorQ42
import Derived.Test.YtflnjlbafchnaaaGreatDoorQ43
import Derived.Test.YtflnjlbafchnaaaGreatDoorQ46
import Derived.Test.YtflnjlbafchnaaaGreatDoorQ19
/-
  Cells: hasRead (the program).
-/
namespace Go.Proofs.YtflnjlbafchnaaaGreatDoor
open Go.RowKit

set_option maxRecDepth 100000 in
set_option maxHeartbeats 4000000 in
theorem hasRead_any (w : World) (b : Nat) (j : Jb) (K : Jn) (h : JbAt w b j K) (r : Rr) (ko : Option Addr) (kc : Nat) (hr : r.v.length < 4294967281) (hw : 14 ≤ w.heap.size) (hL : LW w) (hc : ∀ c : Ce, c.Ok → CmOk j.kd j.k j.v j.m c.v c.n) :
    Calls Tryz.prog 85 #[.pointer (some ⟨b, 0, none⟩), rrV r ko kc] w (JPost w b (j.hasRead r)) := by
  obtain ⟨W, hW⟩ : ∃ W, W = w.alloc (.cells #[.int .i64 r.kd, .string (bs r.v), .int .i64 r.n, .slice ko r.ks.length kc] 50) := ⟨_, rfl⟩
  obtain ⟨A, HAe⟩ : ∃ A, Hid (A = w.heap.size) := ⟨_, rfl⟩
  have KW : Hid (Kept Nil w W) := by rw [hW]; exact (Kept.refl _ _).alloc _
  have HA : Hid (W.heap[A]? = some (.cells #[.int .i64 r.kd, .string (bs r.v), .int .i64 r.n, .slice ko r.ks.length kc] 50 (0, 0))) := by rw [hW, HAe.out]; exact blk_new _ _
  have HJ : Hid (JbAt W b j K) := h.kept KW.out
  have hlb : b < W.heap.size := lt_of_block HJ.out
  have hlA : A < W.heap.size := lt_of_block HA.out
  have hbA : b ≠ A := by rw [HAe.out]; have := lt_of_block h; omega
  have hAb : A ≠ b := fun e => hbA e.symm
  have a0 : W.cell? ⟨A, 0, none⟩ = some (.int .i64 r.kd) := blk_at HA.out 0 rfl
  have a1 : W.cell? ⟨A, 1, none⟩ = some (.string (bs r.v)) := blk_at HA.out 1 rfl
  have a2 : W.cell? ⟨A, 2, none⟩ = some (.int .i64 r.n) := blk_at HA.out 2 rfl
  have a3 : W.cell? ⟨A, 3, none⟩ = some (.slice ko r.ks.length kc) := blk_at HA.out 3 rfl
  obtain ⟨u, Hu⟩ : ∃ u, Hid (u = j.hasRead r) := ⟨_, rfl⟩
  rw [← Hu.out]
  have HLW : Hid (LW W) := hL.kept KW.out
  have HW20 : Hid (14 ≤ W.heap.size) := Nat.le_trans hw KW.out.size
  have IL := isLost_any r ko kc W
  clear h hL
  unfold rrV at IL ⊢
  go_enter Tryz.func85, Tryz.ntmps85
  go_upto_region 1 with fail
  rw [← hW, ← HAe.out]
  clear hW
  go_wp2_with fail
  go_fit IL
  rintro _ w1 ⟨rfl, k1⟩
  have HJ1 : Hid (JbAt w1 b j K) := HJ.out.kept k1
  have HA1 : Hid (w1.heap[A]? = some (.cells #[.int .i64 r.kd, .string (bs r.v), .int .i64 r.n, .slice ko r.ks.length kc] 50 (0, 0))) := k1.block _ _ HA.out (fun x => x)
  have K1 : Hid (Kept Nil w w1) := KW.out.trans k1
  have HL1 : Hid (LW w1) := HLW.out.kept k1
  have HW1 : Hid (14 ≤ w1.heap.size) := Nat.le_trans HW20.out k1.size
  clear IL k1 a0 a1 a2 a3 hlb hlA
  by_cases c5 : 5 < r.kd
  · have hu : u = j := by rw [Hu.out]; exact if_pos c5
    rw [decide_eq_true c5]
    clear c5
    go_wp2
    rw [hu]
    exact bodyPost_ret (results_none rfl _ _ _) rfl ⟨rfl, ⟨K, HJ1.out⟩, kept_oneN K1.out⟩
  · rw [decide_eq_false c5]
    have C5 : Hid (¬ 5 < r.kd) := c5
    clear c5
    have hlb : b < w1.heap.size := lt_of_block HJ1.out
    have hlA : A < w1.heap.size := lt_of_block HA1.out
    have a0 : w1.cell? ⟨A, 0, none⟩ = some (.int .i64 r.kd) := blk_at HA1.out 0 rfl
    have a1 : w1.cell? ⟨A, 1, none⟩ = some (.string (bs r.v)) := blk_at HA1.out 1 rfl
    have a2 : w1.cell? ⟨A, 2, none⟩ = some (.int .i64 r.n) := blk_at HA1.out 2 rfl
    have a3 : w1.cell? ⟨A, 3, none⟩ = some (.slice ko r.ks.length kc) := blk_at HA1.out 3 rfl
    have q6 : w1.cell? ⟨b, 6, none⟩ = some (.int .i64 j.at') := blk_at HJ1.out 6 rfl
    have SW := fun (X : World) (kX : Kept Nil w1 X) => saw_any j.at' r ko kc X hr (Nat.le_trans HW1.out kX.size) (HL1.out.kept kX)
    have HOK : Hid ((sawC j.at' r).Ok) := sawC_ok _ _
    have HU2 : Hid (u = ({ j with sn := sawC j.at' r, sv := versR r } : Jb).seen) := by show _ = _; rw [Hu.out]; exact if_neg (by have := C5.out; omega)
    obtain ⟨c, Hc⟩ : ∃ c, Hid (c = sawC j.at' r) := ⟨_, rfl⟩
    obtain ⟨m, Hm⟩ : ∃ m, Hid (m = versR r) := ⟨_, rfl⟩
    rw [← Hc.out, ← Hm.out] at SW HU2
    rw [← Hc.out] at HOK
    unfold rrV at SW
    go_upto_region 2 with fail
    go_region_with (go_at_call 125; go_must (go_fit (SW _ (by repeat (first | exact Kept.refl _ _ | refine Kept.drew ?_)))); rintro _ wa ⟨rfl, ka⟩; have Ka : Hid (Kept Nil w1 wa) := Kept.trans (by repeat (first | exact Kept.refl _ _ | refine Kept.drew ?_)) ka; have HJa : Hid (JbAt wa b j K) := HJ1.out.kept Ka.out; clear ka; have n12 : wa.cell? ⟨b, 12, none⟩ = some (.string (bs j.sn.v)) := blk_at HJa.out 12 rfl; have o12 := blk_free HJa.out 12; have n13 : wa.cell? ⟨b, 13, none⟩ = some (.int .i64 j.sn.n) := blk_at HJa.out 13 rfl; have o13 := blk_free HJa.out 13; have n14 : wa.cell? ⟨b, 14, none⟩ = some (.int .i64 j.sn.s) := blk_at HJa.out 14 rfl; have o14 := blk_free HJa.out 14; have n15 : wa.cell? ⟨b, 15, none⟩ = some (.int .i64 j.sn.h) := blk_at HJa.out 15 rfl; have o15 := blk_free HJa.out 15; have n16 : wa.cell? ⟨b, 16, none⟩ = some (.int .i64 j.sn.g) := blk_at HJa.out 16 rfl; have o16 := blk_free HJa.out 16; have n17 : wa.cell? ⟨b, 17, none⟩ = some (.int .i64 j.sv) := blk_at HJa.out 17 rfl; have o17 := blk_free HJa.out 17; unfold siV)
    all_goals
      obtain ⟨Y, hY⟩ : ∃ Y, Y = ((((((wa.setCell ⟨b, 12, none⟩ (.string (bs c.v))).setCell ⟨b, 13, none⟩ (.int .i64 c.n)).setCell ⟨b, 14, none⟩ (.int .i64 c.s)).setCell ⟨b, 15, none⟩ (.int .i64 c.h)).setCell ⟨b, 16, none⟩ (.int .i64 c.g)).setCell ⟨b, 17, none⟩ (.int .i64 m)) := ⟨_, rfl⟩
      rw [← hY]
      have HJY : Hid (JbAt Y b { j with sn := c, sv := m } K) := by rw [hY]; exact HJa.out.sn6 c m
      have KY : Hid (Kept (One b) w Y) := by rw [hY]; exact (((((((kept_oneN (K1.out.trans Ka.out)).setCell (p := ⟨b, 12, none⟩) (fun _ => rfl) _).setCell (p := ⟨b, 13, none⟩) (fun _ => rfl) _).setCell (p := ⟨b, 14, none⟩) (fun _ => rfl) _).setCell (p := ⟨b, 15, none⟩) (fun _ => rfl) _).setCell (p := ⟨b, 16, none⟩) (fun _ => rfl) _).setCell (p := ⟨b, 17, none⟩) (fun _ => rfl) _)
      clear hY q6 a0 a1 a2 a3 n12 o12 n13 o13 n14 o14 n15 o15 n16 o16 n17 o17
      obtain ⟨i, Hi⟩ : ∃ i : Jb, Hid (i = { j with sn := c, sv := m }) := ⟨_, rfl⟩
      have HSN : Hid (i.sn = c ∧ i.tg = j.tg ∧ i.kd = j.kd ∧ i.k = j.k ∧ i.v = j.v ∧ i.m = j.m) := by rw [Hi.out]; exact ⟨rfl, rfl, rfl, rfl, rfl, rfl⟩
      rw [← Hi.out] at HJY HU2
      have q14 : Y.cell? ⟨b, 14, none⟩ = some (.int .i64 c.s) := by rw [← HSN.out.1]; exact blk_at HJY.out 14 rfl
      have q4 : Y.cell? ⟨b, 4, none⟩ = some (.int .i64 j.tg) := by rw [← HSN.out.2.1]; exact blk_at HJY.out 4 rfl
      have q11 : Y.cell? ⟨b, 11, none⟩ = some (.int .i64 i.ph) := blk_at HJY.out 11 rfl
      have f11 : Y.frozen? ⟨b, 11, none⟩ = false := blk_free HJY.out 11
      by_cases c2 : c.s = 2
      · have hc2 : ((c.s : Int) == 2) = true := by rw [c2]; rfl
        have hu : u = i.follow := by rw [HU2.out]; exact if_pos (by rw [HSN.out.1]; exact c2)
        have EN := follow_any Y b i K HJY.out
        rw [← hu] at EN
        clear hu c2
        go_wp2_with fail
        go_fit EN
        rintro _ w9 ⟨rfl, h9, k9⟩
        have HZ : Hid ((∃ K, JbAt w9 b u K) ∧ Kept (One b) w w9) := ⟨h9, KY.out.trans k9⟩
        clear h9 k9
        go_wp2
        go_end0
        exact ⟨rfl, HZ.out⟩
      · have hc2 : ((c.s : Int) == 2) = false := by simp; omega
        by_cases c1 : c.s = 1
        · have hc1 : ((c.s : Int) == 1) = true := by rw [c1]; rfl
          have HU3 : Hid (u = { i with ph := 4 }) := by show _ = _; rw [HU2.out]; unfold Jb.seen; rw [if_neg (by rw [HSN.out.1]; exact c2), if_pos (by rw [HSN.out.1]; exact c1)]
          obtain ⟨Z, hZ⟩ : ∃ Z, Z = Y.setCell ⟨b, 11, none⟩ (.int .i64 4) := ⟨_, rfl⟩
          have HZ : Hid ((∃ K, JbAt Z b u K) ∧ Kept (One b) w Z) := by
            rw [hZ, HU3.out]
            exact ⟨⟨_, HJY.out.s11 4⟩, (KY.out.setCell (p := ⟨b, 11, none⟩) (fun _ => rfl) _)⟩
          clear c1 c2
          go_wp2
          rw [← hZ]
          go_end0
          exact ⟨rfl, HZ.out⟩
        · have hc1 : ((c.s : Int) == 1) = false := by simp; omega
          by_cases c0 : 0 < j.tg
          · have hc0 : (0 : Int) < j.tg := by omega
            have hu : u = i.handOver := by rw [HU2.out]; unfold Jb.seen; rw [if_neg (by rw [HSN.out.1]; exact c2), if_neg (by rw [HSN.out.1]; exact c1), if_pos (by rw [HSN.out.2.1]; exact c0)]
            have EN := handOver_any Y b i K HJY.out (by rw [HSN.out.1]; exact HOK.out.h)
            rw [← hu] at EN
            clear hu c0 c1 c2
            go_wp2_with fail
            go_fit EN
            rintro _ w9 ⟨rfl, h9, k9⟩
            have HZ : Hid ((∃ K, JbAt w9 b u K) ∧ Kept (One b) w w9) := ⟨h9, KY.out.trans k9⟩
            clear h9 k9
            go_wp2
            go_end0
            exact ⟨rfl, HZ.out⟩
          · have hc0 : ¬ (0 : Int) < j.tg := by omega
            have hu : u = i.apply := by rw [HU2.out]; unfold Jb.seen; rw [if_neg (by rw [HSN.out.1]; exact c2), if_neg (by rw [HSN.out.1]; exact c1), if_neg (by rw [HSN.out.2.1]; exact c0)]
            have EN := japply_any Y b i K HJY.out (by obtain ⟨e1, _, e3, e4, e5, e6⟩ := HSN.out; rw [e1, e3, e4, e5, e6]; exact hc c HOK.out)
            rw [← hu] at EN
            clear hu c0 c1 c2
            go_wp2_with fail
            go_fit EN
            rintro _ w9 ⟨rfl, h9, k9⟩
            have HZ : Hid ((∃ K, JbAt w9 b u K) ∧ Kept (One b) w w9) := ⟨h9, KY.out.trans k9⟩
            clear h9 k9
            go_wp2
            go_end0
            exact ⟨rfl, HZ.out⟩
end Go.Proofs.YtflnjlbafchnaaaGreatDoor

/-
  Cells: hasWritten (the program).
-/
namespace Go.Proofs.YtflnjlbafchnaaaGreatDoor
open Go.RowKit

set_option maxRecDepth 100000 in
set_option maxHeartbeats 4000000 in
theorem hasWritten_any (w : World) (b : Nat) (j : Jb) (K : Jn) (h : JbAt w b j K) (r : Rr) (ko : Option Addr) (kc : Nat) :
    Calls Tryz.prog 86 #[.pointer (some ⟨b, 0, none⟩), rrV r ko kc] w (JPost w b (j.hasWritten r)) := by
  obtain ⟨W, hW⟩ : ∃ W, W = w.alloc (.cells #[.int .i64 r.kd, .string (bs r.v), .int .i64 r.n, .slice ko r.ks.length kc] 50) := ⟨_, rfl⟩
  obtain ⟨A, HAe⟩ : ∃ A, Hid (A = w.heap.size) := ⟨_, rfl⟩
  have KW : Hid (Kept Nil w W) := by rw [hW]; exact (Kept.refl _ _).alloc _
  have HA : Hid (W.heap[A]? = some (.cells #[.int .i64 r.kd, .string (bs r.v), .int .i64 r.n, .slice ko r.ks.length kc] 50 (0, 0))) := by rw [hW, HAe.out]; exact blk_new _ _
  have HJ : Hid (JbAt W b j K) := h.kept KW.out
  have hlb : b < W.heap.size := lt_of_block HJ.out
  have hlA : A < W.heap.size := lt_of_block HA.out
  have hbA : b ≠ A := by rw [HAe.out]; have := lt_of_block h; omega
  have hAb : A ≠ b := fun e => hbA e.symm
  have a0 : W.cell? ⟨A, 0, none⟩ = some (.int .i64 r.kd) := blk_at HA.out 0 rfl
  have a1 : W.cell? ⟨A, 1, none⟩ = some (.string (bs r.v)) := blk_at HA.out 1 rfl
  have a2 : W.cell? ⟨A, 2, none⟩ = some (.int .i64 r.n) := blk_at HA.out 2 rfl
  have a3 : W.cell? ⟨A, 3, none⟩ = some (.slice ko r.ks.length kc) := blk_at HA.out 3 rfl
  have q4 : W.cell? ⟨b, 4, none⟩ = some (.int .i64 j.tg) := blk_at HJ.out 4 rfl
  have q5 : W.cell? ⟨b, 5, none⟩ = some (.int .i64 j.st) := blk_at HJ.out 5 rfl
  have q11 : W.cell? ⟨b, 11, none⟩ = some (.int .i64 j.ph) := blk_at HJ.out 11 rfl
  have q28 : W.cell? ⟨b, 28, none⟩ = some (.bool j.ow) := blk_at HJ.out 28 rfl
  have q12 : W.cell? ⟨b, 12, none⟩ = some (.string (bs j.sn.v)) := blk_at HJ.out 12 rfl
  have q13 : W.cell? ⟨b, 13, none⟩ = some (.int .i64 j.sn.n) := blk_at HJ.out 13 rfl
  have q14 : W.cell? ⟨b, 14, none⟩ = some (.int .i64 j.sn.s) := blk_at HJ.out 14 rfl
  have q15 : W.cell? ⟨b, 15, none⟩ = some (.int .i64 j.sn.h) := blk_at HJ.out 15 rfl
  have q16 : W.cell? ⟨b, 16, none⟩ = some (.int .i64 j.sn.g) := blk_at HJ.out 16 rfl
  have q17 : W.cell? ⟨b, 17, none⟩ = some (.int .i64 j.sv) := blk_at HJ.out 17 rfl
  have q18 : W.cell? ⟨b, 18, none⟩ = some (.string (bs j.nx.v)) := blk_at HJ.out 18 rfl
  have q19 : W.cell? ⟨b, 19, none⟩ = some (.int .i64 j.nx.n) := blk_at HJ.out 19 rfl
  have q20 : W.cell? ⟨b, 20, none⟩ = some (.int .i64 j.nx.s) := blk_at HJ.out 20 rfl
  have q21 : W.cell? ⟨b, 21, none⟩ = some (.int .i64 j.nx.h) := blk_at HJ.out 21 rfl
  have q22 : W.cell? ⟨b, 22, none⟩ = some (.int .i64 j.nx.g) := blk_at HJ.out 22 rfl
  have q23 : W.cell? ⟨b, 23, none⟩ = some (.int .i64 j.re.kd) := blk_at HJ.out 23 rfl
  have q24 : W.cell? ⟨b, 24, none⟩ = some (.string (bs j.re.v)) := blk_at HJ.out 24 rfl
  have q25 : W.cell? ⟨b, 25, none⟩ = some (.int .i64 j.re.n) := blk_at HJ.out 25 rfl
  have q26 : W.cell? ⟨b, 26, none⟩ = some (.slice K.eo j.re.ks.length K.ec) := blk_at HJ.out 26 rfl
  have f5 : W.frozen? ⟨b, 5, none⟩ = false := blk_free HJ.out 5
  have f11 : W.frozen? ⟨b, 11, none⟩ = false := blk_free HJ.out 11
  have f28 : W.frozen? ⟨b, 28, none⟩ = false := blk_free HJ.out 28
  have f12 : W.frozen? ⟨b, 12, none⟩ = false := blk_free HJ.out 12
  have f13 : W.frozen? ⟨b, 13, none⟩ = false := blk_free HJ.out 13
  have f14 : W.frozen? ⟨b, 14, none⟩ = false := blk_free HJ.out 14
  have f15 : W.frozen? ⟨b, 15, none⟩ = false := blk_free HJ.out 15
  have f16 : W.frozen? ⟨b, 16, none⟩ = false := blk_free HJ.out 16
  have f17 : W.frozen? ⟨b, 17, none⟩ = false := blk_free HJ.out 17
  obtain ⟨u, Hu⟩ : ∃ u, Hid (u = j.hasWritten r) := ⟨_, rfl⟩
  rw [← Hu.out]
  clear h
  unfold rrV
  by_cases c1 : r.kd = 1
  · have hc1 : (r.kd == 1) = true := by simp [c1]
    by_cases c2 : 0 < j.tg
    · have hc2 : (0 : Int) < j.tg := by omega
      have HU2 : Hid (u = { j with sn := j.nx, sv := r.n, ow := true, ph := 4 }) := by show _ = _; rw [Hu.out]; exact if_pos ⟨c1, c2⟩
      clear c1 c2
      obtain ⟨Y, hY⟩ : ∃ Y, Y = (((((((W.setCell ⟨b, 12, none⟩ (.string (bs j.nx.v))).setCell ⟨b, 13, none⟩ (.int .i64 j.nx.n)).setCell ⟨b, 14, none⟩ (.int .i64 j.nx.s)).setCell ⟨b, 15, none⟩ (.int .i64 j.nx.h)).setCell ⟨b, 16, none⟩ (.int .i64 j.nx.g)).setCell ⟨b, 17, none⟩ (.int .i64 r.n)).setCell ⟨b, 28, none⟩ (.bool true)).drew := ⟨_, rfl⟩
      have HJY : Hid (JbAt Y b { j with sn := j.nx, sv := r.n, ow := true } K) := by rw [hY]; exact ((HJ.out.sn6 j.nx r.n).s28 true).drew
      have KY : Hid (Kept (One b) w Y) := by rw [hY]; exact ((((((((kept_oneN KW.out).setCell (p := ⟨b, 12, none⟩) (fun _ => rfl) _).setCell (p := ⟨b, 13, none⟩) (fun _ => rfl) _).setCell (p := ⟨b, 14, none⟩) (fun _ => rfl) _).setCell (p := ⟨b, 15, none⟩) (fun _ => rfl) _).setCell (p := ⟨b, 16, none⟩) (fun _ => rfl) _).setCell (p := ⟨b, 17, none⟩) (fun _ => rfl) _).setCell (p := ⟨b, 28, none⟩) (fun _ => rfl) _).drew
      go_enter Tryz.func86, Tryz.ntmps86
      go_upto_region 2 with fail
      rw [← hW, ← HAe.out]
      clear hW
      go_wp2
      go_region
      all_goals
        go_upto_region 4 with fail
        rw [← hY]
        clear hY q4 q5 q11 q28 f11
        have q11 : Y.cell? ⟨b, 11, none⟩ = some (.int .i64 j.ph) := blk_at HJY.out 11 rfl
        have f11 : Y.frozen? ⟨b, 11, none⟩ = false := blk_free HJY.out 11
        obtain ⟨Z, hZ⟩ : ∃ Z, Z = Y.setCell ⟨b, 11, none⟩ (.int .i64 4) := ⟨_, rfl⟩
        have HZ : Hid ((∃ K, JbAt Z b u K) ∧ Kept (One b) w Z) := by
          rw [hZ, HU2.out]
          exact ⟨⟨_, HJY.out.s11 4⟩, (KY.out.setCell (p := ⟨b, 11, none⟩) (fun _ => rfl) _)⟩
        go_wp2
        rw [← hZ]
        go_end0
        exact ⟨rfl, HZ.out⟩
    · have hc2 : ¬ (0 : Int) < j.tg := by omega
      have hu : u = j.fin j.re := by rw [Hu.out]; unfold Jb.hasWritten; rw [if_neg (by omega), if_pos c1]
      have EN := end_any W b j K HJ.out j.re K.eo K.ec K.he
      rw [← hu] at EN
      unfold rrV at EN
      clear hu c1 c2
      go_enter Tryz.func86, Tryz.ntmps86
      go_upto_region 2 with fail
      rw [← hW, ← HAe.out]
      clear hW
      go_wp2_with fail
      go_fit EN
      rintro _ w1 ⟨rfl, h1, k1⟩
      have HY : Hid ((∃ K, JbAt w1 b u K) ∧ Kept (One b) w w1) := ⟨h1, (kept_oneN KW.out).trans k1⟩
      clear h1 k1
      go_wp2
      go_end0
      exact ⟨rfl, HY.out⟩
  · have hc1 : (r.kd == 1) = false := by simp [c1]
    have hng : ¬ (r.kd = 1 ∧ 0 < j.tg) := fun e => c1 e.1
    by_cases c4 : r.kd = 4
    · have hc4 : (r.kd == 4) = true := by simp [c4]
      have hu : u = j.finK 4 := by rw [Hu.out]; unfold Jb.hasWritten; rw [if_neg hng, if_neg c1, if_pos c4]
      have EN := endWith_any W b j K HJ.out 4
      rw [← hu] at EN
      clear hu c1 c4 hng
      go_enter Tryz.func86, Tryz.ntmps86
      go_upto_region 2 with fail
      rw [← hW, ← HAe.out]
      clear hW
      go_wp2_with fail
      go_fit EN
      rintro _ w1 ⟨rfl, h1, k1⟩
      have HY : Hid ((∃ K, JbAt w1 b u K) ∧ Kept (One b) w w1) := ⟨h1, (kept_oneN KW.out).trans k1⟩
      clear h1 k1
      go_wp2
      go_end0
      exact ⟨rfl, HY.out⟩
    · have hc4 : (r.kd == 4) = false := by simp [c4]
      have IL := isLost_any r ko kc W
      unfold rrV at IL
      have HU3 : Hid (u = if 5 < r.kd ∧ j.tg = 0 then { j with st := 3, ph := 7 } else { j with ph := 0 }) := by show _ = _; rw [Hu.out]; unfold Jb.hasWritten; rw [if_neg hng, if_neg c1, if_neg c4]
      clear c1 c4 hng
      go_enter Tryz.func86, Tryz.ntmps86
      go_upto_region 2 with fail
      rw [← hW, ← HAe.out]
      clear hW
      go_wp2_with fail
      go_fit IL
      rintro _ w1 ⟨rfl, k1⟩
      have HJ1 : Hid (JbAt w1 b j K) := HJ.out.kept k1
      have K1 : Hid (Kept (One b) w w1) := kept_oneN (KW.out.trans k1)
      clear IL k1 q4 q5 q11 q28 q12 q13 q14 q15 q16 q17 q18 q19 q20 q21 q22 q23 q24 q25 q26
      have q4 : w1.cell? ⟨b, 4, none⟩ = some (.int .i64 j.tg) := blk_at HJ1.out 4 rfl
      have q5 : w1.cell? ⟨b, 5, none⟩ = some (.int .i64 j.st) := blk_at HJ1.out 5 rfl
      have q11 : w1.cell? ⟨b, 11, none⟩ = some (.int .i64 j.ph) := blk_at HJ1.out 11 rfl
      have g5 : w1.frozen? ⟨b, 5, none⟩ = false := blk_free HJ1.out 5
      have g11 : w1.frozen? ⟨b, 11, none⟩ = false := blk_free HJ1.out 11
      by_cases c5 : 5 < r.kd
      · rw [decide_eq_true c5]
        by_cases c6 : j.tg = 0
        · have hc6 : ((j.tg : Int) == 0) = true := by rw [c6]; rfl
          obtain ⟨Y, hY⟩ : ∃ Y, Y = (w1.setCell ⟨b, 5, none⟩ (.int .i64 3)).setCell ⟨b, 11, none⟩ (.int .i64 7) := ⟨_, rfl⟩
          have HY : Hid ((∃ K, JbAt Y b u K) ∧ Kept (One b) w Y) := by
            rw [hY, HU3.out, if_pos ⟨c5, c6⟩]
            exact ⟨⟨_, (HJ1.out.s5 3).s11 7⟩, ((K1.out.setCell (p := ⟨b, 5, none⟩) (fun _ => rfl) _).setCell (p := ⟨b, 11, none⟩) (fun _ => rfl) _)⟩
          clear c5 c6
          go_wp2
          rw [← hY]
          go_end0
          exact ⟨rfl, HY.out⟩
        · have hc6 : ((j.tg : Int) == 0) = false := by simp; omega
          obtain ⟨Y, hY⟩ : ∃ Y, Y = w1.setCell ⟨b, 11, none⟩ (.int .i64 0) := ⟨_, rfl⟩
          have HY : Hid ((∃ K, JbAt Y b u K) ∧ Kept (One b) w Y) := by
            rw [hY, HU3.out, if_neg (fun e => c6 e.2)]
            exact ⟨⟨_, HJ1.out.s11 0⟩, (K1.out.setCell (p := ⟨b, 11, none⟩) (fun _ => rfl) _)⟩
          clear c5 c6
          go_wp2
          rw [← hY]
          go_end0
          exact ⟨rfl, HY.out⟩
      · rw [decide_eq_false c5]
        obtain ⟨Y, hY⟩ : ∃ Y, Y = w1.setCell ⟨b, 11, none⟩ (.int .i64 0) := ⟨_, rfl⟩
        have HY : Hid ((∃ K, JbAt Y b u K) ∧ Kept (One b) w Y) := by
          rw [hY, HU3.out, if_neg (fun e => c5 e.1)]
          exact ⟨⟨_, HJ1.out.s11 0⟩, (K1.out.setCell (p := ⟨b, 11, none⟩) (fun _ => rfl) _)⟩
        clear c5
        go_wp2
        rw [← hY]
        go_end0
        exact ⟨rfl, HY.out⟩
end Go.Proofs.YtflnjlbafchnaaaGreatDoor
