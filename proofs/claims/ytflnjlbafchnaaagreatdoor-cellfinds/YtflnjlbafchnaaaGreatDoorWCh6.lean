/-
  Cells: Find (the program), for any maps, keys and groups.
-/
import Derived.Test.YtflnjlbafchnaaaGreatDoorWCh5
import Derived.BigQuiet
namespace Go.Proofs.YtflnjlbafchnaaaGreatDoor
open Go.RowKit

set_option maxRecDepth 100000 in
set_option maxHeartbeats 4000000 in
theorem say_all (key : List UInt8) (ms : List (List Pr)) (mo : Option Addr) (mc g : Nat) (w : World) (h : MRow w mo ms) (hk : (key.length : Int) ≤ 140737488351232) (hg1 : 1 ≤ g) (hg : g ≤ ms.length) (hlen : (ms.length : Int) ≤ 6000000000000) (hw : 14 ≤ w.heap.size) (hL : LW w) :
    Calls Tryz.prog 97 #[.slice mo ms.length mc, .int .i64 g, .string (bs key)] w fun e w' => e = .returned (ceV (sayM key ms g)) ∧ Kept Nil w w' := by
  obtain ⟨i, hi⟩ : ∃ i, g = i + 1 := ⟨g - 1, by omega⟩
  have hil : i < ms.length := by omega
  have HSay : Hid (sayM key ms g = sawC g (apR 2 (cKey key) [] 0 ms[i])) := by
    show _ = _
    unfold sayM
    rw [if_neg (by omega), show g - 1 = i by omega, List.getElem?_eq_getElem hil]
    rfl
  obtain ⟨a, ao, c, rfl, hab, hcell, hrow, hnone, hpl⟩ := h i hil
  obtain ⟨ps, Hps⟩ : ∃ ps, Hid (ps = ms[i]) := ⟨ms[i], (rfl : ms[i] = ms[i])⟩
  rw [← Hps.out] at HSay hcell hrow hnone hpl
  obtain ⟨r, Hr⟩ : ∃ r, Hid (r = apR 2 (cKey key) [] 0 ps) := ⟨_, rfl⟩
  have hrv : r.v.length < 4294967281 := by rw [Hr.out]; have := getv_len (cKey key) ps; omega
  obtain ⟨x, Hx⟩ : ∃ x, Hid (x = sayM key ms g) := ⟨_, rfl⟩
  rw [← Hx.out]
  have HXS : Hid (x = sawC g r) := by show _ = _; rw [Hx.out, HSay.out, Hr.out]
  clear HSay h
  obtain ⟨W, hW⟩ : ∃ W, W = w.alloc (.cells #[.string ⟨#[]⟩, .int .i64 0, .int .i64 0, .int .i64 0, .int .i64 0] 131) := ⟨_, rfl⟩
  obtain ⟨R, HRe⟩ : ∃ A, Hid (A = w.heap.size) := ⟨_, rfl⟩
  have KW : Hid (Kept Nil w W) := by rw [hW]; exact (Kept.refl _ _).alloc _
  have HR : Hid (CeAt W R ceZ) := by rw [hW, HRe.out]; exact blk_new _ _
  have HRw : Hid (w.heap.size ≤ R) := by show _ ≤ _; rw [HRe.out]; exact Nat.le_refl _
  have HLW : Hid (LW W) := hL.kept KW.out
  have HW20 : Hid (14 ≤ W.heap.size) := Nat.le_trans hw KW.out.size
  have HROW : Hid (PairRow w.heap.size w ao ps) := hrow
  have sc : W.cell? (a.add i) = some (.slice ao ps.length c) := cell_kept KW.out (fun _ x => x) hcell
  have sl : (a.add i).block < W.heap.size := by rw [add_block]; exact Nat.lt_of_lt_of_le hab KW.out.size
  have GC := fun X => cgetCommand_any key (by omega) X
  have AP : ∀ X, Kept Nil W X → Calls Tryz.prog 21 #[.slice ao ps.length c, .agg #[.int .i64 2, .string (bs (cKey key)), .string (bs []), .int .i64 0]] X (ApPost X (apP 2 (cKey key) [] 0 ps) r) := fun X kX => by
    rw [Hr.out]
    exact apply_any w.heap.size c ao ps (cKey key) [] 2 0 X (HROW.out.nil (KW.out.trans kX)) hnone hpl (by unfold maxLen cKey; simp; omega) (by unfold maxLen; simp)
  unfold cdV getC at GC
  simp only at GC
  have hsub2 : (g : Int) - 1 = (i : Int) := by omega
  have hsub : IntKind.i64.wrap ((g : Int) - 1) = (i : Int) := by
    rw [hsub2]
    simp only [IntKind.wrap_i64]
    omega
  have hi0 : (0 : Int) ≤ (i : Int) := by omega
  have hi1 : (i : Int) < ms.length := by omega
  clear hcell hrow hL hi hg hg1 hsub2
  have s0 := sc
  go_enter Tryz.func97, Tryz.ntmps97
  go_upto_region 1 with fail
  rw [← hW, ← HRe.out]
  clear hW
  go_region_held3 (fun w' => w'.cell? (a.add i) = some (.slice ao ps.length c)) (first | (with_reducible assumption) | (refine spm s0 sl ?_; repeat (first | (with_reducible exact KcG.out) | (with_reducible exact KbG.out) | (with_reducible exact Kept.refl _ _) | (with_reducible refine Kept.drew ?_) | (with_reducible refine Kept.alloc ?_ _) | (with_reducible refine Kept.setCell ?_ (fun _ => ?_) _) | (first | exact Nat.le_refl _ | exact hszb | exact hszc)))) (first | (go_at_call 77; go_must (go_fit (GC _)); rintro _ wb ⟨rfl, kb⟩; have Kb : Hid (Kept Nil W wb) := Kept.trans (by repeat (first | exact Kept.refl _ _ | refine Kept.drew ?_ | refine Kept.alloc ?_ _)) kb; have sb := cell_kept Kb.out (fun _ x => x) sc; have hszb : W.heap.size ≤ wb.heap.size := Kb.out.size; have KbG : Hid (Kept (fun q _ => W.heap.size ≤ q) W wb) := Kb.out.mono (fun _ _ x => x.elim); (try (have P0 : Hid (wb.heap[W.heap.size]? = some (.cells #[.int .i64 0, .string ⟨#[]⟩, .int .i64 0, .slice none 0 0] 50 (0, 0))) := kb.block _ _ (by first | exact blk_new W _ | exact blk_new W.drew _) (fun x => x); have P0c0 : wb.cell? ⟨W.heap.size, 0, none⟩ = some (.int .i64 0) := blk_at P0.out 0 rfl; have P0f0 := blk_free P0.out 0; have P0c1 : wb.cell? ⟨W.heap.size, 1, none⟩ = some (.string ⟨#[]⟩) := blk_at P0.out 1 rfl; have P0f1 := blk_free P0.out 1; have P0c2 : wb.cell? ⟨W.heap.size, 2, none⟩ = some (.int .i64 0) := blk_at P0.out 2 rfl; have P0f2 := blk_free P0.out 2; have P0c3 : wb.cell? ⟨W.heap.size, 3, none⟩ = some (.slice none 0 0) := blk_at P0.out 3 rfl; have P0f3 := blk_free P0.out 3; have P0l : W.heap.size < wb.heap.size := lt_of_block P0.out; have P0n : wb.heap.size ≠ W.heap.size := Nat.ne_of_gt P0l; have P0m : W.heap.size ≠ wb.heap.size := Nat.ne_of_lt P0l)); clear kb; (try (unfold cdV))) | (go_at_call 21; go_must (go_fit (AP _ (by repeat (first | exact Kb.out | exact Kept.refl _ _ | refine Kept.drew ?_ | refine Kept.alloc ?_ _)))); rintro _ wc ⟨ao', c', ko, kc, rfl, _, _, kc0⟩; have Kc : Hid (Kept Nil W wc) := Kept.trans (by repeat (first | exact Kb.out | exact Kept.refl _ _ | refine Kept.drew ?_ | refine Kept.alloc ?_ _)) kc0; have sc2 := cell_kept Kc.out (fun _ x => x) sc; have hszc : W.heap.size ≤ wc.heap.size := Kc.out.size; have KcG : Hid (Kept (fun q _ => W.heap.size ≤ q) W wc) := Kc.out.mono (fun _ _ x => x.elim); (try (have P1 : Hid (wc.heap[W.heap.size]? = some (.cells #[.int .i64 0, .string ⟨#[]⟩, .int .i64 0, .slice none 0 0] 50 (0, 0))) := kc0.block _ _ (by first | exact P0.out | exact blk_past P0.out _) (fun x => x); have P1c0 : wc.cell? ⟨W.heap.size, 0, none⟩ = some (.int .i64 0) := blk_at P1.out 0 rfl; have P1f0 := blk_free P1.out 0; have P1c1 : wc.cell? ⟨W.heap.size, 1, none⟩ = some (.string ⟨#[]⟩) := blk_at P1.out 1 rfl; have P1f1 := blk_free P1.out 1; have P1c2 : wc.cell? ⟨W.heap.size, 2, none⟩ = some (.int .i64 0) := blk_at P1.out 2 rfl; have P1f2 := blk_free P1.out 2; have P1c3 : wc.cell? ⟨W.heap.size, 3, none⟩ = some (.slice none 0 0) := blk_at P1.out 3 rfl; have P1f3 := blk_free P1.out 3; have P1l : W.heap.size < wc.heap.size := lt_of_block P1.out; have P1n : wc.heap.size ≠ W.heap.size := Nat.ne_of_gt P1l; have P1m : W.heap.size ≠ wc.heap.size := Nat.ne_of_lt P1l)); (try (have P2 : Hid (wc.heap[wb.heap.size]? = some (.cells #[.int .i64 0, .string ⟨#[]⟩, .int .i64 0, .slice none 0 0] 50 (0, 0))) := kc0.block _ _ (by first | exact blk_new wb _ | exact blk_new wb.drew _) (fun x => x); have P2c0 : wc.cell? ⟨wb.heap.size, 0, none⟩ = some (.int .i64 0) := blk_at P2.out 0 rfl; have P2f0 := blk_free P2.out 0; have P2c1 : wc.cell? ⟨wb.heap.size, 1, none⟩ = some (.string ⟨#[]⟩) := blk_at P2.out 1 rfl; have P2f1 := blk_free P2.out 1; have P2c2 : wc.cell? ⟨wb.heap.size, 2, none⟩ = some (.int .i64 0) := blk_at P2.out 2 rfl; have P2f2 := blk_free P2.out 2; have P2c3 : wc.cell? ⟨wb.heap.size, 3, none⟩ = some (.slice none 0 0) := blk_at P2.out 3 rfl; have P2f3 := blk_free P2.out 3; have P2l : wb.heap.size < wc.heap.size := lt_of_block P2.out; have P2n : wc.heap.size ≠ wb.heap.size := Nat.ne_of_gt P2l; have P2m : wb.heap.size ≠ wc.heap.size := Nat.ne_of_lt P2l)); clear kc0; (try (unfold rrV))))
  all_goals
    first
      | (obtain ⟨X, hX⟩ : ∃ X, X = wc.alloc (.cells #[.int .i64 r.kd, .string (bs r.v), .int .i64 r.n, .slice ko r.ks.length kc] 50) := ⟨_, rfl⟩; rw [← hX]; have HS : Hid (X.heap[wc.heap.size]? = some (.cells #[.int .i64 r.kd, .string (bs r.v), .int .i64 r.n, .slice ko r.ks.length kc] 50 (0, 0)) ∧ Kept Nil W X) := (by rw [hX]; exact ⟨blk_new _ _, Kc.out.alloc _⟩); have HGR : Hid (wc.heap.size ≠ R) := (by show _ ≠ _; have := lt_of_block HR.out; omega); clear hX; obtain ⟨G, HG⟩ : ∃ G, Hid (G = wc.heap.size) := ⟨_, rfl⟩; rw [← HG.out] at HS HGR ⊢)
      | (obtain ⟨X, hX⟩ : ∃ X, X = ((((wc.setCell ⟨wb.heap.size, 0, none⟩ (.int .i64 r.kd)).setCell ⟨wb.heap.size, 1, none⟩ (.string (bs r.v))).setCell ⟨wb.heap.size, 2, none⟩ (.int .i64 r.n)).setCell ⟨wb.heap.size, 3, none⟩ (.slice ko r.ks.length kc)) := ⟨_, rfl⟩; rw [← hX]; have HS : Hid (X.heap[wb.heap.size]? = some (.cells #[.int .i64 r.kd, .string (bs r.v), .int .i64 r.n, .slice ko r.ks.length kc] 50 (0, 0)) ∧ Kept Nil W X) := (by rw [hX]; exact ⟨gput4 P2.out, ((((Kc.out.setNew (p := ⟨wb.heap.size, 0, none⟩) hszb _).setNew (p := ⟨wb.heap.size, 1, none⟩) hszb _).setNew (p := ⟨wb.heap.size, 2, none⟩) hszb _).setNew (p := ⟨wb.heap.size, 3, none⟩) hszb _)⟩); have HGR : Hid (wb.heap.size ≠ R) := (by show _ ≠ _; have := lt_of_block HR.out; omega); clear hX; obtain ⟨G, HG⟩ : ∃ G, Hid (G = wb.heap.size) := ⟨_, rfl⟩; rw [← HG.out] at HS HGR ⊢)
      | (obtain ⟨X, hX⟩ : ∃ X, X = ((((wc.setCell ⟨W.heap.size, 0, none⟩ (.int .i64 r.kd)).setCell ⟨W.heap.size, 1, none⟩ (.string (bs r.v))).setCell ⟨W.heap.size, 2, none⟩ (.int .i64 r.n)).setCell ⟨W.heap.size, 3, none⟩ (.slice ko r.ks.length kc)) := ⟨_, rfl⟩; rw [← hX]; have HS : Hid (X.heap[W.heap.size]? = some (.cells #[.int .i64 r.kd, .string (bs r.v), .int .i64 r.n, .slice ko r.ks.length kc] 50 (0, 0)) ∧ Kept Nil W X) := (by rw [hX]; exact ⟨gput4 P1.out, ((((Kc.out.setNew (p := ⟨W.heap.size, 0, none⟩) (Nat.le_refl _) _).setNew (p := ⟨W.heap.size, 1, none⟩) (Nat.le_refl _) _).setNew (p := ⟨W.heap.size, 2, none⟩) (Nat.le_refl _) _).setNew (p := ⟨W.heap.size, 3, none⟩) (Nat.le_refl _) _)⟩); have HGR : Hid (W.heap.size ≠ R) := (by show _ ≠ _; have := lt_of_block HR.out; omega); clear hX; obtain ⟨G, HG⟩ : ∃ G, Hid (G = W.heap.size) := ⟨_, rfl⟩; rw [← HG.out] at HS HGR ⊢)
    have HRX : Hid (CeAt X R ceZ) := HS.out.2.block _ _ HR.out (fun x => x)
    have hGR : G ≠ R := HGR.out
    have hRG : R ≠ G := fun e => hGR e.symm
    have g0 : X.cell? ⟨G, 0, none⟩ = some (.int .i64 r.kd) := blk_at HS.out.1 0 rfl
    have g1 : X.cell? ⟨G, 1, none⟩ = some (.string (bs r.v)) := blk_at HS.out.1 1 rfl
    have g2 : X.cell? ⟨G, 2, none⟩ = some (.int .i64 r.n) := blk_at HS.out.1 2 rfl
    have g3 : X.cell? ⟨G, 3, none⟩ = some (.slice ko r.ks.length kc) := blk_at HS.out.1 3 rfl
    have SW := saw_any g r ko kc X hrv (Nat.le_trans HW20.out HS.out.2.size) (HLW.out.kept HS.out.2)
    rw [← HXS.out] at SW
    obtain ⟨m, Hm⟩ : ∃ m, Hid (m = versR r) := ⟨_, rfl⟩
    rw [← Hm.out] at SW
    unfold rrV at SW
    go_wp2_with fail
    go_fit SW
    rintro _ w7 ⟨rfl, k7⟩
    have HR7 : Hid (CeAt w7 R ceZ) := k7.block _ _ HRX.out (fun x => x)
    have K7 : Hid (Kept Nil w w7) := KW.out.trans (HS.out.2.trans k7)
    clear k7 SW g0 g1 g2 g3
    unfold siV
    have fld : ∀ Z, (Instr.field 133 (.agg #[.string (bs x.v), .int .i64 x.n, .int .i64 x.s, .int .i64 x.h, .int .i64 x.g, .int .i64 m]) 0).run Tryz.prog Z = .ok (.agg #[.string (bs x.v), .int .i64 x.n, .int .i64 x.s, .int .i64 x.h, .int .i64 x.g]) Z := fun _ => by kernel_rfl
    have z0 := blk_free HR7.out 0
    have z1 := blk_free HR7.out 1
    have z2 := blk_free HR7.out 2
    have z3 := blk_free HR7.out 3
    have z4 := blk_free HR7.out 4
    have y0 : w7.cell? ⟨R, 0, none⟩ = some (.string (bs [])) := blk_at HR7.out 0 rfl
    have y1 : w7.cell? ⟨R, 1, none⟩ = some (.int .i64 0) := blk_at HR7.out 1 rfl
    have y2 : w7.cell? ⟨R, 2, none⟩ = some (.int .i64 0) := blk_at HR7.out 2 rfl
    have y3 : w7.cell? ⟨R, 3, none⟩ = some (.int .i64 0) := blk_at HR7.out 3 rfl
    have y4 : w7.cell? ⟨R, 4, none⟩ = some (.int .i64 0) := blk_at HR7.out 4 rfl
    obtain ⟨Y, hY⟩ : ∃ Y, Y = ((((w7.setCell ⟨R, 0, none⟩ (.string (bs x.v))).setCell ⟨R, 1, none⟩ (.int .i64 x.n)).setCell ⟨R, 2, none⟩ (.int .i64 x.s)).setCell ⟨R, 3, none⟩ (.int .i64 x.h)).setCell ⟨R, 4, none⟩ (.int .i64 x.g) := ⟨_, rfl⟩
    have HY : Hid (CeAt Y R x ∧ Kept Nil w Y) := by rw [hY]; exact ⟨ceAt5 HR7.out x, ((((K7.out.setNew (p := ⟨R, 0, none⟩) HRw.out _).setNew (p := ⟨R, 1, none⟩) HRw.out _).setNew (p := ⟨R, 2, none⟩) HRw.out _).setNew (p := ⟨R, 3, none⟩) HRw.out _).setNew (p := ⟨R, 4, none⟩) HRw.out _⟩
    go_wp2
    rw [← hY]
    have j0 := blk_at HY.out.1 0 rfl
    have j1 := blk_at HY.out.1 1 rfl
    have j2 := blk_at HY.out.1 2 rfl
    have j3 := blk_at HY.out.1 3 rfl
    have j4 := blk_at HY.out.1 4 rfl
    exact bodyPost_ret (v := ceV x) (by simp [results, Tryz.results97, go_sem, j0, j1, j2, j3, j4, ceV]) rfl ⟨rfl, HY.out.2⟩
set_option maxRecDepth 100000 in
set_option maxHeartbeats 4000000 in
theorem handed_all (key : List UInt8) (ms : List (List Pr)) (mo : Option Addr) (mc : Nat) (c : Ce) (hc : c.Ok) (w : World) (h : MRow w mo ms) (hk : (key.length : Int) ≤ 140737488351232) (hlen : (ms.length : Int) ≤ 6000000000000) (hw : 14 ≤ w.heap.size) (hL : LW w) :
    Calls Tryz.prog 98 #[.slice mo ms.length mc, ceV c, .string (bs key)] w fun e w' => e = .returned (.bool (handed (sayM key ms) ms.length c)) ∧ Kept Nil w w' := by
  obtain ⟨y, Hy⟩ : ∃ y, Hid (y = handed (sayM key ms) ms.length c) := ⟨_, rfl⟩
  rw [← Hy.out]
  obtain ⟨W, hW⟩ : ∃ W, W = w.alloc (.cells #[.string (bs c.v), .int .i64 c.n, .int .i64 c.s, .int .i64 c.h, .int .i64 c.g] 131) := ⟨_, rfl⟩
  obtain ⟨A, HAe⟩ : ∃ A, Hid (A = w.heap.size) := ⟨_, rfl⟩
  have KW : Hid (Kept Nil w W) := by rw [hW]; exact (Kept.refl _ _).alloc _
  have HA : Hid (CeAt W A c) := by rw [hW, HAe.out]; exact blk_new _ _
  have HLW : Hid (LW W) := hL.kept KW.out
  have HM : Hid (MRow W mo ms) := h.kept KW.out
  have HW20 : Hid (14 ≤ W.heap.size) := Nat.le_trans hw KW.out.size
  have hlA : A < W.heap.size := lt_of_block HA.out
  have a2 : W.cell? ⟨A, 2, none⟩ = some (.int .i64 c.s) := blk_at HA.out 2 rfl
  have a3 : W.cell? ⟨A, 3, none⟩ = some (.int .i64 c.h) := blk_at HA.out 3 rfl
  have a4 : W.cell? ⟨A, 4, none⟩ = some (.int .i64 c.g) := blk_at HA.out 4 rfl
  have HS := fun X => chas_any c.g ms.length mo mc X
  clear h hL
  unfold ceV
  by_cases c2 : c.s = 2
  · obtain rfl : y = true := by rw [Hy.out]; unfold handed; simp [c2]
    have e2 : ((c.s : Int) == 2) = true := by rw [c2]; rfl
    clear c2
    go_enter Tryz.func98, Tryz.ntmps98
    go_upto_region 1 with fail
    rw [← hW, ← HAe.out]
    clear hW
    go_wp2
    go_ret
    exact ⟨rfl, KW.out⟩
  · have e2 : ((c.s : Int) == 2) = false := by simp; omega
    by_cases c1 : c.s = 1
    · have e1 : ((c.s : Int) == 1) = true := by rw [c1]; rfl
      have hg1 := (hc.g1 (by omega)).1
      by_cases cg : c.g ≤ ms.length
      · have hy : y = decide (c.h ≤ (sayM key ms c.g).h) := by rw [Hy.out]; unfold handed; simp [c1, cg]
        have SY := fun (X : World) (kX : Kept Nil W X) => say_all key ms mo mc c.g X (HM.out.kept kX) hk hg1 cg hlen (Nat.le_trans HW20.out kX.size) (HLW.out.kept kX)
        obtain ⟨x, Hx⟩ : ∃ x, Hid (x = sayM key ms c.g) := ⟨_, rfl⟩
        rw [← Hx.out] at SY hy
        rw [decide_eq_true cg] at HS
        unfold ceV at SY
        have fld : ∀ Z, (Instr.field 131 (.agg #[.string (bs x.v), .int .i64 x.n, .int .i64 x.s, .int .i64 x.h, .int .i64 x.g]) 2).run Tryz.prog Z = .ok (.int .i64 x.h) Z := fun _ => by kernel_rfl
        clear c1 c2 cg
        have s0 : W.cell? ⟨A, 3, none⟩ = some (.int .i64 c.h) ∧ W.cell? ⟨A, 4, none⟩ = some (.int .i64 c.g) := ⟨a3, a4⟩
        by_cases ch : c.h ≤ x.h
        · have dh : (c.h : Int) ≤ x.h := by omega
          obtain rfl : y = true := by rw [hy]; exact decide_eq_true ch
          clear ch hy
          go_enter Tryz.func98, Tryz.ntmps98
          go_upto_region 5 with fail
          rw [← hW, ← HAe.out]
          clear hW
          go_region_held3 (fun w' => w'.cell? ⟨A, 3, none⟩ = some (.int .i64 c.h) ∧ w'.cell? ⟨A, 4, none⟩ = some (.int .i64 c.g)) (first | (with_reducible assumption) | go_keep) (first | (go_at_call 96; go_fit (HS _); rintro _ wq ⟨rfl, hwq⟩; subst hwq) | (go_at_call 97; go_fit (SY _ (by repeat (first | exact Kept.refl _ _ | refine Kept.drew ?_))); rintro _ wa ⟨rfl, ka⟩; have Ka : Hid (Kept Nil W wa) := Kept.trans (by repeat (first | exact Kept.refl _ _ | refine Kept.drew ?_)) ka; have HAa : Hid (CeAt wa A c) := ka.block _ _ HA.out (fun x => x); clear ka; have sa : wa.cell? ⟨A, 3, none⟩ = some (.int .i64 c.h) ∧ wa.cell? ⟨A, 4, none⟩ = some (.int .i64 c.g) := ⟨blk_at HAa.out 3 rfl, blk_at HAa.out 4 rfl⟩))
          all_goals
            go_wp2
            go_ret
            exact ⟨rfl, KW.out.trans Ka.out⟩
        · have dh : ¬ (c.h : Int) ≤ x.h := by omega
          have dh2 : decide ((c.h : Int) ≤ x.h) = false := decide_eq_false dh
          have dh3 : decide (c.h ≤ x.h) = false := decide_eq_false ch
          have dh4 : x.h < c.h := by omega
          obtain rfl : y = false := by rw [hy]; exact decide_eq_false ch
          clear ch hy
          go_enter Tryz.func98, Tryz.ntmps98
          go_upto_region 5 with fail
          rw [← hW, ← HAe.out]
          clear hW
          go_region_held3 (fun w' => w'.cell? ⟨A, 3, none⟩ = some (.int .i64 c.h) ∧ w'.cell? ⟨A, 4, none⟩ = some (.int .i64 c.g)) (first | (with_reducible assumption) | go_keep) (first | (go_at_call 96; go_fit (HS _); rintro _ wq ⟨rfl, hwq⟩; subst hwq) | (go_at_call 97; go_fit (SY _ (by repeat (first | exact Kept.refl _ _ | refine Kept.drew ?_))); rintro _ wa ⟨rfl, ka⟩; have Ka : Hid (Kept Nil W wa) := Kept.trans (by repeat (first | exact Kept.refl _ _ | refine Kept.drew ?_)) ka; have HAa : Hid (CeAt wa A c) := ka.block _ _ HA.out (fun x => x); clear ka; have sa : wa.cell? ⟨A, 3, none⟩ = some (.int .i64 c.h) ∧ wa.cell? ⟨A, 4, none⟩ = some (.int .i64 c.g) := ⟨blk_at HAa.out 3 rfl, blk_at HAa.out 4 rfl⟩))
          all_goals
            go_wp2
            go_ret
            exact ⟨rfl, KW.out.trans Ka.out⟩
      · obtain rfl : y = false := by rw [Hy.out]; unfold handed; simp [c1, cg]
        rw [decide_eq_false cg] at HS
        clear c1 c2 cg
        go_enter Tryz.func98, Tryz.ntmps98
        go_upto_region 5 with fail
        rw [← hW, ← HAe.out]
        clear hW
        go_quiet (first | (go_at_call 96; exact Calls.quiet_of_same (HS _)))
        go_wp2
        go_ret
        exact ⟨rfl, KW.out.drewN _⟩
    · obtain rfl : y = false := by rw [Hy.out]; unfold handed; simp [c1, c2]
      have e1 : ((c.s : Int) == 1) = false := by simp; omega
      clear c1 c2
      go_enter Tryz.func98, Tryz.ntmps98
      go_upto_region 1 with fail
      rw [← hW, ← HAe.out]
      clear hW
      go_wp2
      go_ret
      exact ⟨rfl, KW.out⟩
set_option maxRecDepth 100000 in
set_option maxHeartbeats 4000000 in
theorem cfind_all (key : List UInt8) (ms : List (List Pr)) (mo : Option Addr) (mc : Nat) (w : World) (h : MRow w mo ms) (hk : (key.length : Int) ≤ 140737488351232) (hlen : (ms.length : Int) ≤ 6000000000000) (hw : 14 ≤ w.heap.size) (hL : LW w) :
    Calls Tryz.prog 34 #[.slice mo ms.length mc, .string (bs key)] w (FindPost w key (findG (sayM key ms) ms.length ms.length 1)) := by
  obtain ⟨F, HF⟩ : ∃ F, Hid (F = findG (sayM key ms) ms.length ms.length 1) := ⟨_, rfl⟩
  rw [← HF.out]
  obtain ⟨W, hW⟩ : ∃ W, W = w.alloc (.cells #[.string ⟨#[]⟩, .string ⟨#[]⟩, .int .i64 0] 63) := ⟨_, rfl⟩
  obtain ⟨R, HRe⟩ : ∃ A, Hid (A = w.heap.size) := ⟨_, rfl⟩
  have KW : Hid (Kept Nil w W) := by rw [hW]; exact (Kept.refl _ _).alloc _
  have HR : Hid (W.heap[R]? = some (.cells #[.string ⟨#[]⟩, .string ⟨#[]⟩, .int .i64 0] 63 (0, 0))) := by rw [hW, HRe.out]; exact blk_new _ _
  have HRw : Hid (w.heap.size ≤ R) := by show _ ≤ _; rw [HRe.out]; exact Nat.le_refl _
  have HM : Hid (MRow w mo ms) := h
  have HLw : Hid (LW w) := hL
  obtain ⟨n, hn⟩ : ∃ n, n = ms.length := ⟨_, rfl⟩
  have Hn : Hid (n = ms.length) := hn
  rw [← hn] at hlen HF ⊢
  clear h hL hn
  go_enter Tryz.func34, Tryz.ntmps34
  go_upto_region 1 with fail
  rw [← hW, ← HRe.out]
  clear hW
  go_wp2
  go_loopw [8, 15] (fun x i wr => ∃ k at' : Nat, k ≤ n ∧ 1 ≤ at' ∧ x = .int .i64 at' ∧ i = .int .i64 k ∧ Hid (F = findG (sayM key ms) n (n - k) at') ∧ Hid (Kept Nil w wr) ∧ Hid (wr.heap[R]? = some (.cells #[.string ⟨#[]⟩, .string ⟨#[]⟩, .int .i64 0] 63 (0, 0)))) (fun _ i _ => n - (intOf i).toNat)
  case atStart => exact ⟨0, 1, Nat.zero_le _, Nat.le_refl _, rfl, rfl, HF.out, KW.out, HR.out⟩
  case round =>
    obtain ⟨k, at', hkn, ha1, rfl, rfl, HI, HK, HRr⟩ := hrel
    clear HF HR
    rename World => wr
    by_cases hlt : k < n
    · have HS := chas_any at' n mo mc wr
      by_cases ca : at' ≤ n
      · rw [decide_eq_true ca] at HS
        have SY := say_all key ms mo mc at' wr (HM.out.kept HK.out) hk ha1 (by have := Hn.out; omega) (by have := Hn.out; omega) (Nat.le_trans hw HK.out.size) (HLw.out.kept HK.out)
        rw [← Hn.out] at SY
        obtain ⟨c, Hc⟩ : ∃ c, Hid (c = sayM key ms at') := ⟨_, rfl⟩
        rw [← Hc.out] at SY
        have HOK : Hid c.Ok := by rw [Hc.out]; exact sayM_ok _ _ _
        have HI2 : Hid (F = if handed (sayM key ms) n c = true then findG (sayM key ms) n (n - (k + 1)) c.g else (at', c.v, c.n)) := by
          show _ = _
          rw [HI.out, show n - k = (n - (k + 1)) + 1 by omega, Hc.out]
          conv => lhs; unfold findG
          rw [if_neg (by omega)]
        clear HI
        go_wp2_with fail
        go_fit HS
        rintro _ wq ⟨rfl, hwq⟩
        rw [hwq]
        clear hwq wq
        go_wp2_with fail
        go_fit SY
        rintro _ w1 ⟨rfl, k1⟩
        have K1 : Hid (Kept Nil w w1) := HK.out.trans k1
        have HR1 : Hid (w1.heap[R]? = some (.cells #[.string ⟨#[]⟩, .string ⟨#[]⟩, .int .i64 0] 63 (0, 0))) := k1.block _ _ HRr.out (fun x => x)
        clear k1 SY HS
        unfold ceV
        obtain ⟨V, hV⟩ : ∃ V, V = w1.alloc (.cells #[.string (bs c.v), .int .i64 c.n, .int .i64 c.s, .int .i64 c.h, .int .i64 c.g] 131) := ⟨_, rfl⟩
        obtain ⟨B, HBe⟩ : ∃ A, Hid (A = w1.heap.size) := ⟨_, rfl⟩
        have KV : Hid (Kept Nil w V) := by rw [hV]; exact K1.out.alloc _
        have HB : Hid (CeAt V B c) := by rw [hV, HBe.out]; exact blk_new _ _
        have HRV : Hid (V.heap[R]? = some (.cells #[.string ⟨#[]⟩, .string ⟨#[]⟩, .int .i64 0] 63 (0, 0))) := by rw [hV]; exact blk_past HR1.out _
        have HD := handed_all key ms mo mc c HOK.out V (HM.out.kept KV.out) hk (by have := Hn.out; omega) (Nat.le_trans hw KV.out.size) (HLw.out.kept KV.out)
        rw [← Hn.out] at HD
        obtain ⟨y, Hy⟩ : ∃ y, Hid (y = handed (sayM key ms) n c) := ⟨_, rfl⟩
        rw [← Hy.out] at HD HI2
        unfold ceV at HD
        have b0 : V.cell? ⟨B, 0, none⟩ = some (.string (bs c.v)) := blk_at HB.out 0 rfl
        have b1 : V.cell? ⟨B, 1, none⟩ = some (.int .i64 c.n) := blk_at HB.out 1 rfl
        have b2 : V.cell? ⟨B, 2, none⟩ = some (.int .i64 c.s) := blk_at HB.out 2 rfl
        have b3 : V.cell? ⟨B, 3, none⟩ = some (.int .i64 c.h) := blk_at HB.out 3 rfl
        have b4 : V.cell? ⟨B, 4, none⟩ = some (.int .i64 c.g) := blk_at HB.out 4 rfl
        go_upto_region 7 with fail
        rw [← hV, ← HBe.out]
        clear hV
        go_wp2_with fail
        go_fit HD
        rintro _ w2 ⟨rfl, k2⟩
        have K2 : Hid (Kept Nil w w2) := KV.out.trans k2
        have HB2 : Hid (CeAt w2 B c) := k2.block _ _ HB.out (fun x => x)
        have HR2 : Hid (w2.heap[R]? = some (.cells #[.string ⟨#[]⟩, .string ⟨#[]⟩, .int .i64 0] 63 (0, 0))) := k2.block _ _ HRV.out (fun x => x)
        clear k2 HD b0 b1 b2 b3 b4
        have d0 : w2.cell? ⟨B, 0, none⟩ = some (.string (bs c.v)) := blk_at HB2.out 0 rfl
        have d1 : w2.cell? ⟨B, 1, none⟩ = some (.int .i64 c.n) := blk_at HB2.out 1 rfl
        have d4 : w2.cell? ⟨B, 4, none⟩ = some (.int .i64 c.g) := blk_at HB2.out 4 rfl
        cases y with
        | true =>
          have HI3 : Hid (F = findG (sayM key ms) n (n - (k + 1)) c.g) := HI2.out
          have hg1 : 1 ≤ c.g := by
            refine (HOK.out.g1 (fun e => ?_)).1
            have := Hy.out
            unfold handed at this
            simp [e] at this
          go_wp2
          go_roundw
          case rel => exact ⟨k + 1, c.g, by omega, hg1, rfl, by go_num, HI3.out, K2.out, HR2.out⟩
          case measure => simp [intOf]; omega
        | false =>
          have HI3 : Hid (F = (at', c.v, c.n)) := HI2.out
          have PA := pair_any c.v c.n key w2
          unfold ctV at PA
          go_wp2_with fail
          go_fit PA
          rintro _ w3 ⟨rfl, k3⟩
          have K3 : Hid (Kept Nil w w3) := K2.out.trans k3
          have HR3 : Hid (w3.heap[R]? = some (.cells #[.string ⟨#[]⟩, .string ⟨#[]⟩, .int .i64 0] 63 (0, 0))) := k3.block _ _ HR2.out (fun x => x)
          clear k3 PA d0 d1 d4
          obtain ⟨p, q, t, hp⟩ : ∃ p q t, prV key c.v c.n = .agg #[.string p, .string q, .int .i64 t] := by
            unfold prV
            split
            · exact ⟨_, _, _, rfl⟩
            · exact ⟨_, _, _, rfl⟩
          have HP : Hid (prV key c.v c.n = .agg #[.string p, .string q, .int .i64 t]) := hp
          rw [hp]
          clear hp
          obtain ⟨U, hU⟩ : ∃ U, U = w3.alloc (.cells #[.string p, .string q, .int .i64 t] 63) := ⟨_, rfl⟩
          obtain ⟨G, HGe⟩ : ∃ A, Hid (A = w3.heap.size) := ⟨_, rfl⟩
          have KU : Hid (Kept Nil w U) := by rw [hU]; exact K3.out.alloc _
          have HGb : Hid (U.heap[G]? = some (.cells #[.string p, .string q, .int .i64 t] 63 (0, 0))) := by rw [hU, HGe.out]; exact blk_new _ _
          have HRU : Hid (U.heap[R]? = some (.cells #[.string ⟨#[]⟩, .string ⟨#[]⟩, .int .i64 0] 63 (0, 0))) := by rw [hU]; exact blk_past HR3.out _
          have hGR : G ≠ R := by rw [HGe.out]; have := lt_of_block HR3.out; omega
          have hRG : R ≠ G := fun e => hGR e.symm
          have e0 : U.cell? ⟨G, 0, none⟩ = some (.string p) := blk_at HGb.out 0 rfl
          have e1 : U.cell? ⟨G, 1, none⟩ = some (.string q) := blk_at HGb.out 1 rfl
          have e2 : U.cell? ⟨G, 2, none⟩ = some (.int .i64 t) := blk_at HGb.out 2 rfl
          have x0 : U.cell? ⟨R, 0, none⟩ = some (.string ⟨#[]⟩) := blk_at HRU.out 0 rfl
          have x1 : U.cell? ⟨R, 1, none⟩ = some (.string ⟨#[]⟩) := blk_at HRU.out 1 rfl
          have x2 : U.cell? ⟨R, 2, none⟩ = some (.int .i64 0) := blk_at HRU.out 2 rfl
          have f0 := blk_free HRU.out 0
          have f1 := blk_free HRU.out 1
          have f2 := blk_free HRU.out 2
          have lG : G < U.heap.size := lt_of_block HGb.out
          have lR : R < U.heap.size := lt_of_block HRU.out
          obtain ⟨Y, hY⟩ : ∃ Y, Y = (((U.setCell ⟨R, 0, none⟩ (.string p)).setCell ⟨R, 1, none⟩ (.string q)).setCell ⟨R, 2, none⟩ (.int .i64 t)).drew := ⟨_, rfl⟩
          have HY : Hid (Y.heap[R]? = some (.cells #[.string p, .string q, .int .i64 t] 63 (0, 0)) ∧ Kept Nil w Y) := by rw [hY]; exact ⟨gdrew (hput3 HRU.out), (((KU.out.setNew (p := ⟨R, 0, none⟩) HRw.out _).setNew (p := ⟨R, 1, none⟩) HRw.out _).setNew (p := ⟨R, 2, none⟩) HRw.out _).drew⟩
          obtain ⟨z, Hz⟩ : ∃ z, Hid (z = !decide (c.v = [] ∧ c.n = 0)) := ⟨_, rfl⟩
          rw [← Hz.out]
          go_upto_region 9 with fail
          rw [← hU, ← HGe.out]
          clear hU
          go_region
          all_goals
            go_wp2
            rw [← hY]
            have j0 := blk_at HY.out.1 0 rfl
            have j1 := blk_at HY.out.1 1 rfl
            have j2 := blk_at HY.out.1 2 rfl
            exact bodyPost_ret (v := .tuple #[.int .i64 at', .agg #[.string p, .string q, .int .i64 t], .bool z]) (by simp [results, Tryz.results34, go_sem, j0, j1, j2]) rfl ⟨by rw [HI3.out, HP.out, Hz.out], HY.out.2⟩
      · rw [decide_eq_false ca] at HS
        have HF0 : Hid (F = (0, [], 0)) := by
          show _ = _
          rw [HI.out, show n - k = (n - (k + 1)) + 1 by omega]
          unfold findG
          rw [if_pos (by omega)]
        clear HI
        go_wp2_with fail
        go_fit HS
        rintro _ wq ⟨rfl, hwq⟩
        rw [hwq]
        clear hwq wq
        have f0 := blk_free HRr.out 0
        have f1 := blk_free HRr.out 1
        have f2 := blk_free HRr.out 2
        have x0 : wr.cell? ⟨R, 0, none⟩ = some (.string ⟨#[]⟩) := blk_at HRr.out 0 rfl
        have x1 : wr.cell? ⟨R, 1, none⟩ = some (.string ⟨#[]⟩) := blk_at HRr.out 1 rfl
        have x2 : wr.cell? ⟨R, 2, none⟩ = some (.int .i64 0) := blk_at HRr.out 2 rfl
        obtain ⟨Y, hY⟩ : ∃ Y, Y = ((wr.setCell ⟨R, 0, none⟩ (.string ⟨#[]⟩)).setCell ⟨R, 1, none⟩ (.string ⟨#[]⟩)).setCell ⟨R, 2, none⟩ (.int .i64 0) := ⟨_, rfl⟩
        have HY : Hid (Y.heap[R]? = some (.cells #[.string ⟨#[]⟩, .string ⟨#[]⟩, .int .i64 0] 63 (0, 0)) ∧ Kept Nil w Y) := by rw [hY]; exact ⟨hput3 HRr.out, ((HK.out.setNew (p := ⟨R, 0, none⟩) HRw.out _).setNew (p := ⟨R, 1, none⟩) HRw.out _).setNew (p := ⟨R, 2, none⟩) HRw.out _⟩
        go_wp2
        rw [← hY]
        have j0 := blk_at HY.out.1 0 rfl
        have j1 := blk_at HY.out.1 1 rfl
        have j2 := blk_at HY.out.1 2 rfl
        exact bodyPost_ret (v := .tuple #[.int .i64 0, prV key [] 0, .bool false]) (by simp [results, Tryz.results34, go_sem, j0, j1, j2, prV]) rfl ⟨by rw [HF0.out]; simp, HY.out.2⟩
    · have HF0 : Hid (F = (0, [], 0)) := by
        show _ = _
        rw [HI.out, show n - k = 0 by omega]
        rfl
      clear HI
      have f0 := blk_free HRr.out 0
      have f1 := blk_free HRr.out 1
      have f2 := blk_free HRr.out 2
      have x0 : wr.cell? ⟨R, 0, none⟩ = some (.string ⟨#[]⟩) := blk_at HRr.out 0 rfl
      have x1 : wr.cell? ⟨R, 1, none⟩ = some (.string ⟨#[]⟩) := blk_at HRr.out 1 rfl
      have x2 : wr.cell? ⟨R, 2, none⟩ = some (.int .i64 0) := blk_at HRr.out 2 rfl
      obtain ⟨Y, hY⟩ : ∃ Y, Y = ((wr.setCell ⟨R, 0, none⟩ (.string ⟨#[]⟩)).setCell ⟨R, 1, none⟩ (.string ⟨#[]⟩)).setCell ⟨R, 2, none⟩ (.int .i64 0) := ⟨_, rfl⟩
      have HY : Hid (Y.heap[R]? = some (.cells #[.string ⟨#[]⟩, .string ⟨#[]⟩, .int .i64 0] 63 (0, 0)) ∧ Kept Nil w Y) := by rw [hY]; exact ⟨hput3 HRr.out, ((HK.out.setNew (p := ⟨R, 0, none⟩) HRw.out _).setNew (p := ⟨R, 1, none⟩) HRw.out _).setNew (p := ⟨R, 2, none⟩) HRw.out _⟩
      go_wp2
      rw [← hY]
      have j0 := blk_at HY.out.1 0 rfl
      have j1 := blk_at HY.out.1 1 rfl
      have j2 := blk_at HY.out.1 2 rfl
      exact bodyPost_ret (v := .tuple #[.int .i64 0, prV key [] 0, .bool false]) (by simp [results, Tryz.results34, go_sem, j0, j1, j2, prV]) rfl ⟨by rw [HF0.out]; simp, HY.out.2⟩
end Go.Proofs.YtflnjlbafchnaaaGreatDoor
