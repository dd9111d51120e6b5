/-
  Cells: has, say (the program): what a group of several maps says.
-/
import Derived.Test.YtflnjlbafchnaaaGreatDoorWCe8
import Derived.Test.YtflnjlbafchnaaaGreatDoorWTmB
import Derived.Test.YtflnjlbafchnaaaGreatDoorWCgA
import Derived.Test.YtflnjlbafchnaaaGreatDoorWKv12
import Derived.Deep.RegionHeld3
namespace Go.Proofs.YtflnjlbafchnaaaGreatDoor
open Go.RowKit

/-- Maps in a row, as any world has them in which nothing of them was written. -/
def MRow (w : World) (mo : Option Addr) (ms : List (List Pr)) : Prop := ∀ i, (hi : i < ms.length) → ∃ a ao c, mo = some a ∧ a.block < w.heap.size ∧ w.cell? (a.add i) = some (.slice ao ms[i].length c) ∧ PairRow w.heap.size w ao ms[i] ∧ (ao = none → ms[i] = [] ∧ c = 0) ∧ (ms[i].length : Int) ≤ 3518437208780
theorem spm {W w' : World} {p : Addr} {v : Value} (h : W.cell? p = some v) (hl : p.block < W.heap.size) (hk : Kept (fun q _ => W.heap.size ≤ q) W w') : w'.cell? p = some v := cell_kept hk (fun _ e => by omega) h
theorem MRow.kept {w w' : World} {mo : Option Addr} {ms : List (List Pr)} (h : MRow w mo ms) (k : Kept Nil w w') : MRow w' mo ms := fun i hi => by
  obtain ⟨a, ao, c, h1, h2, h3, h4, h5⟩ := h i hi
  exact ⟨a, ao, c, h1, Nat.lt_of_lt_of_le h2 k.size, cell_kept k (fun _ x => x) h3, fun j hj => (by obtain ⟨b, e1, e2, e3⟩ := (h4.nil k) j hj; exact ⟨b, e1, Nat.lt_of_lt_of_le e2 k.size, e3⟩), h5⟩
def sayM (key : List UInt8) (ms : List (List Pr)) (g : Nat) : Ce := sawC g (apR 2 (cKey key) [] 0 (if g = 0 then [] else (ms[g - 1]?).getD []))
theorem getv_len (k : List UInt8) (ps : List Pr) : (apR 2 k [] 0 ps).v.length ≤ 64 := by
  have h := tells_len (ps := ps) (key := k)
  unfold tells saidR at h
  by_cases c : (pairsOk ps && isCmd 2 k [] 0) = true
  · have e : apR 2 k [] 0 ps = tellRr 1 (spotV k ps) (spotN k ps) := by unfold apR; rw [if_pos c]; rfl
    rw [e] at h ⊢
    unfold tellRr at h ⊢
    split at h
    · rename_i hz; rw [if_pos hz]; simp
    · rename_i hz; rw [if_neg hz]; simpa using h
  · have e : apR 2 k [] 0 ps = ⟨5, [], 0, []⟩ := by unfold apR; rw [if_neg c]
    rw [e]
    simp
set_option maxRecDepth 100000 in
set_option maxHeartbeats 4000000 in
theorem chas_any (g n : Nat) (mo : Option Addr) (mc : Nat) (w : World) :
    Calls Tryz.prog 96 #[.slice mo n mc, .int .i64 g] w fun e w' => e = .returned (.bool (decide (g ≤ n))) ∧ w' = w := by
  by_cases c : g ≤ n
  · have d : (g : Int) ≤ n := by omega
    rw [decide_eq_true c]
    go_enter Tryz.func96, Tryz.ntmps96
    go_wp2
    go_ret
    exact ⟨rfl, rfl⟩
  · have d : ¬ (g : Int) ≤ n := by omega
    rw [decide_eq_false c]
    go_enter Tryz.func96, Tryz.ntmps96
    go_wp2
    go_ret
    exact ⟨rfl, rfl⟩
set_option maxRecDepth 100000 in
set_option maxHeartbeats 4000000 in
theorem say_any (key : List UInt8) (ms : List (List Pr)) (mo : Option Addr) (mc g : Nat) (w : World) (h : MRow w mo ms) (hk : key.length ≤ 1000) (hg1 : 1 ≤ g) (hg : g ≤ ms.length) (hlen : ms.length ≤ 1000000000) (hw : 14 ≤ w.heap.size) (hL : LW w) :
    Calls Tryz.prog 97 #[.slice mo ms.length mc, .int .i64 g, .string (bs key)] w fun e w' => e = .returned (ceV (sayM key ms g)) ∧ Kept Nil w w' := by
  obtain ⟨i, hi⟩ : ∃ i, g = i + 1 := ⟨g - 1, by omega⟩
  have hil : i < ms.length := by omega
  have HSay : Hid (sayM key ms g = sawC g (apR 2 (cKey key) [] 0 ms[i])) := by
    show _ = _
    unfold sayM
    rw [if_neg (by omega), show g - 1 = i by omega, List.getElem?_eq_getElem hil]
    rfl
  obtain ⟨a, ao, c, rfl, hab, hcell, hrow, hnone, hpl⟩ := h i hil
  obtain ⟨ps, Hps⟩ : ∃ ps, Hid (ps = ms[i]) := ⟨ms[i], (rfl : ms[i] = ms[i])⟩
  rw [← Hps.out] at HSay hcell hrow hnone hpl
  obtain ⟨r, Hr⟩ : ∃ r, Hid (r = apR 2 (cKey key) [] 0 ps) := ⟨_, rfl⟩
  have hrv : r.v.length < 4294967281 := by rw [Hr.out]; have := getv_len (cKey key) ps; omega
  obtain ⟨x, Hx⟩ : ∃ x, Hid (x = sayM key ms g) := ⟨_, rfl⟩
  rw [← Hx.out]
  have HXS : Hid (x = sawC g r) := by show _ = _; rw [Hx.out, HSay.out, Hr.out]
  clear HSay h
  obtain ⟨W, hW⟩ : ∃ W, W = w.alloc (.cells #[.string ⟨#[]⟩, .int .i64 0, .int .i64 0, .int .i64 0, .int .i64 0] 131) := ⟨_, rfl⟩
  obtain ⟨R, HRe⟩ : ∃ A, Hid (A = w.heap.size) := ⟨_, rfl⟩
  have KW : Hid (Kept Nil w W) := by rw [hW]; exact (Kept.refl _ _).alloc _
  have HR : Hid (CeAt W R ceZ) := by rw [hW, HRe.out]; exact blk_new _ _
  have HRw : Hid (w.heap.size ≤ R) := by show _ ≤ _; rw [HRe.out]; exact Nat.le_refl _
  have HLW : Hid (LW W) := hL.kept KW.out
  have HW20 : Hid (14 ≤ W.heap.size) := Nat.le_trans hw KW.out.size
  have HROW : Hid (PairRow w.heap.size w ao ps) := hrow
  have sc : W.cell? (a.add i) = some (.slice ao ps.length c) := cell_kept KW.out (fun _ x => x) hcell
  have sl : (a.add i).block < W.heap.size := by rw [add_block]; exact Nat.lt_of_lt_of_le hab KW.out.size
  have GC := fun X => cgetCommand_any key (by omega) X
  have AP : ∀ X, Kept Nil W X → Calls Tryz.prog 21 #[.slice ao ps.length c, .agg #[.int .i64 2, .string (bs (cKey key)), .string (bs []), .int .i64 0]] X (ApPost X (apP 2 (cKey key) [] 0 ps) r) := fun X kX => by
    rw [Hr.out]
    exact apply_any w.heap.size c ao ps (cKey key) [] 2 0 X (HROW.out.nil (KW.out.trans kX)) hnone hpl (by unfold maxLen cKey; simp; omega) (by unfold maxLen; simp)
  unfold cdV getC at GC
  simp only at GC
  have hsub2 : (g : Int) - 1 = (i : Int) := by omega
  have hsub : IntKind.i64.wrap ((g : Int) - 1) = (i : Int) := by
    rw [hsub2]
    simp only [IntKind.wrap_i64]
    omega
  have hi0 : (0 : Int) ≤ (i : Int) := by omega
  have hi1 : (i : Int) < ms.length := by omega
  clear hcell hrow hL hi hg hg1 hsub2
  have s0 := sc
  go_enter Tryz.func97, Tryz.ntmps97
  go_upto_region 1 with fail
  rw [← hW, ← HRe.out]
  clear hW
  go_region_held3 (fun w' => w'.cell? (a.add i) = some (.slice ao ps.length c)) (first | (with_reducible assumption) | (refine spm s0 sl ?_; repeat (first | (with_reducible exact KcG.out) | (with_reducible exact KbG.out) | (with_reducible exact Kept.refl _ _) | (with_reducible refine Kept.drew ?_) | (with_reducible refine Kept.alloc ?_ _) | (with_reducible refine Kept.setCell ?_ (fun _ => ?_) _) | (first | exact Nat.le_refl _ | exact hszb | exact hszc)))) (first | (go_at_call 77; go_must (go_fit (GC _)); rintro _ wb ⟨rfl, kb⟩; have Kb : Hid (Kept Nil W wb) := Kept.trans (by repeat (first | exact Kept.refl _ _ | refine Kept.drew ?_ | refine Kept.alloc ?_ _)) kb; have sb := cell_kept Kb.out (fun _ x => x) sc; have hszb : W.heap.size ≤ wb.heap.size := Kb.out.size; have KbG : Hid (Kept (fun q _ => W.heap.size ≤ q) W wb) := Kb.out.mono (fun _ _ x => x.elim); (try (have P0 : Hid (wb.heap[W.heap.size]? = some (.cells #[.int .i64 0, .string ⟨#[]⟩, .int .i64 0, .slice none 0 0] 50 (0, 0))) := kb.block _ _ (by first | exact blk_new W _ | exact blk_new W.drew _) (fun x => x); have P0c0 : wb.cell? ⟨W.heap.size, 0, none⟩ = some (.int .i64 0) := blk_at P0.out 0 rfl; have P0f0 := blk_free P0.out 0; have P0c1 : wb.cell? ⟨W.heap.size, 1, none⟩ = some (.string ⟨#[]⟩) := blk_at P0.out 1 rfl; have P0f1 := blk_free P0.out 1; have P0c2 : wb.cell? ⟨W.heap.size, 2, none⟩ = some (.int .i64 0) := blk_at P0.out 2 rfl; have P0f2 := blk_free P0.out 2; have P0c3 : wb.cell? ⟨W.heap.size, 3, none⟩ = some (.slice none 0 0) := blk_at P0.out 3 rfl; have P0f3 := blk_free P0.out 3; have P0l : W.heap.size < wb.heap.size := lt_of_block P0.out; have P0n : wb.heap.size ≠ W.heap.size := Nat.ne_of_gt P0l; have P0m : W.heap.size ≠ wb.heap.size := Nat.ne_of_lt P0l)); clear kb; (try (unfold cdV))) | (go_at_call 21; go_must (go_fit (AP _ (by repeat (first | exact Kb.out | exact Kept.refl _ _ | refine Kept.drew ?_ | refine Kept.alloc ?_ _)))); rintro _ wc ⟨ao', c', ko, kc, rfl, _, _, kc0⟩; have Kc : Hid (Kept Nil W wc) := Kept.trans (by repeat (first | exact Kb.out | exact Kept.refl _ _ | refine Kept.drew ?_ | refine Kept.alloc ?_ _)) kc0; have sc2 := cell_kept Kc.out (fun _ x => x) sc; have hszc : W.heap.size ≤ wc.heap.size := Kc.out.size; have KcG : Hid (Kept (fun q _ => W.heap.size ≤ q) W wc) := Kc.out.mono (fun _ _ x => x.elim); (try (have P1 : Hid (wc.heap[W.heap.size]? = some (.cells #[.int .i64 0, .string ⟨#[]⟩, .int .i64 0, .slice none 0 0] 50 (0, 0))) := kc0.block _ _ (by first | exact P0.out | exact blk_past P0.out _) (fun x => x); have P1c0 : wc.cell? ⟨W.heap.size, 0, none⟩ = some (.int .i64 0) := blk_at P1.out 0 rfl; have P1f0 := blk_free P1.out 0; have P1c1 : wc.cell? ⟨W.heap.size, 1, none⟩ = some (.string ⟨#[]⟩) := blk_at P1.out 1 rfl; have P1f1 := blk_free P1.out 1; have P1c2 : wc.cell? ⟨W.heap.size, 2, none⟩ = some (.int .i64 0) := blk_at P1.out 2 rfl; have P1f2 := blk_free P1.out 2; have P1c3 : wc.cell? ⟨W.heap.size, 3, none⟩ = some (.slice none 0 0) := blk_at P1.out 3 rfl; have P1f3 := blk_free P1.out 3; have P1l : W.heap.size < wc.heap.size := lt_of_block P1.out; have P1n : wc.heap.size ≠ W.heap.size := Nat.ne_of_gt P1l; have P1m : W.heap.size ≠ wc.heap.size := Nat.ne_of_lt P1l)); (try (have P2 : Hid (wc.heap[wb.heap.size]? = some (.cells #[.int .i64 0, .string ⟨#[]⟩, .int .i64 0, .slice none 0 0] 50 (0, 0))) := kc0.block _ _ (by first | exact blk_new wb _ | exact blk_new wb.drew _) (fun x => x); have P2c0 : wc.cell? ⟨wb.heap.size, 0, none⟩ = some (.int .i64 0) := blk_at P2.out 0 rfl; have P2f0 := blk_free P2.out 0; have P2c1 : wc.cell? ⟨wb.heap.size, 1, none⟩ = some (.string ⟨#[]⟩) := blk_at P2.out 1 rfl; have P2f1 := blk_free P2.out 1; have P2c2 : wc.cell? ⟨wb.heap.size, 2, none⟩ = some (.int .i64 0) := blk_at P2.out 2 rfl; have P2f2 := blk_free P2.out 2; have P2c3 : wc.cell? ⟨wb.heap.size, 3, none⟩ = some (.slice none 0 0) := blk_at P2.out 3 rfl; have P2f3 := blk_free P2.out 3; have P2l : wb.heap.size < wc.heap.size := lt_of_block P2.out; have P2n : wc.heap.size ≠ wb.heap.size := Nat.ne_of_gt P2l; have P2m : wb.heap.size ≠ wc.heap.size := Nat.ne_of_lt P2l)); clear kc0; (try (unfold rrV))))
  all_goals
    first
      | (obtain ⟨X, hX⟩ : ∃ X, X = wc.alloc (.cells #[.int .i64 r.kd, .string (bs r.v), .int .i64 r.n, .slice ko r.ks.length kc] 50) := ⟨_, rfl⟩; rw [← hX]; have HS : Hid (X.heap[wc.heap.size]? = some (.cells #[.int .i64 r.kd, .string (bs r.v), .int .i64 r.n, .slice ko r.ks.length kc] 50 (0, 0)) ∧ Kept Nil W X) := (by rw [hX]; exact ⟨blk_new _ _, Kc.out.alloc _⟩); have HGR : Hid (wc.heap.size ≠ R) := (by show _ ≠ _; have := lt_of_block HR.out; omega); clear hX; obtain ⟨G, HG⟩ : ∃ G, Hid (G = wc.heap.size) := ⟨_, rfl⟩; rw [← HG.out] at HS HGR ⊢)
      | (obtain ⟨X, hX⟩ : ∃ X, X = ((((wc.setCell ⟨wb.heap.size, 0, none⟩ (.int .i64 r.kd)).setCell ⟨wb.heap.size, 1, none⟩ (.string (bs r.v))).setCell ⟨wb.heap.size, 2, none⟩ (.int .i64 r.n)).setCell ⟨wb.heap.size, 3, none⟩ (.slice ko r.ks.length kc)) := ⟨_, rfl⟩; rw [← hX]; have HS : Hid (X.heap[wb.heap.size]? = some (.cells #[.int .i64 r.kd, .string (bs r.v), .int .i64 r.n, .slice ko r.ks.length kc] 50 (0, 0)) ∧ Kept Nil W X) := (by rw [hX]; exact ⟨gput4 P2.out, ((((Kc.out.setNew (p := ⟨wb.heap.size, 0, none⟩) hszb _).setNew (p := ⟨wb.heap.size, 1, none⟩) hszb _).setNew (p := ⟨wb.heap.size, 2, none⟩) hszb _).setNew (p := ⟨wb.heap.size, 3, none⟩) hszb _)⟩); have HGR : Hid (wb.heap.size ≠ R) := (by show _ ≠ _; have := lt_of_block HR.out; omega); clear hX; obtain ⟨G, HG⟩ : ∃ G, Hid (G = wb.heap.size) := ⟨_, rfl⟩; rw [← HG.out] at HS HGR ⊢)
      | (obtain ⟨X, hX⟩ : ∃ X, X = ((((wc.setCell ⟨W.heap.size, 0, none⟩ (.int .i64 r.kd)).setCell ⟨W.heap.size, 1, none⟩ (.string (bs r.v))).setCell ⟨W.heap.size, 2, none⟩ (.int .i64 r.n)).setCell ⟨W.heap.size, 3, none⟩ (.slice ko r.ks.length kc)) := ⟨_, rfl⟩; rw [← hX]; have HS : Hid (X.heap[W.heap.size]? = some (.cells #[.int .i64 r.kd, .string (bs r.v), .int .i64 r.n, .slice ko r.ks.length kc] 50 (0, 0)) ∧ Kept Nil W X) := (by rw [hX]; exact ⟨gput4 P1.out, ((((Kc.out.setNew (p := ⟨W.heap.size, 0, none⟩) (Nat.le_refl _) _).setNew (p := ⟨W.heap.size, 1, none⟩) (Nat.le_refl _) _).setNew (p := ⟨W.heap.size, 2, none⟩) (Nat.le_refl _) _).setNew (p := ⟨W.heap.size, 3, none⟩) (Nat.le_refl _) _)⟩); have HGR : Hid (W.heap.size ≠ R) := (by show _ ≠ _; have := lt_of_block HR.out; omega); clear hX; obtain ⟨G, HG⟩ : ∃ G, Hid (G = W.heap.size) := ⟨_, rfl⟩; rw [← HG.out] at HS HGR ⊢)
    have HRX : Hid (CeAt X R ceZ) := HS.out.2.block _ _ HR.out (fun x => x)
    have hGR : G ≠ R := HGR.out
    have hRG : R ≠ G := fun e => hGR e.symm
    have g0 : X.cell? ⟨G, 0, none⟩ = some (.int .i64 r.kd) := blk_at HS.out.1 0 rfl
    have g1 : X.cell? ⟨G, 1, none⟩ = some (.string (bs r.v)) := blk_at HS.out.1 1 rfl
    have g2 : X.cell? ⟨G, 2, none⟩ = some (.int .i64 r.n) := blk_at HS.out.1 2 rfl
    have g3 : X.cell? ⟨G, 3, none⟩ = some (.slice ko r.ks.length kc) := blk_at HS.out.1 3 rfl
    have SW := saw_any g r ko kc X hrv (Nat.le_trans HW20.out HS.out.2.size) (HLW.out.kept HS.out.2)
    rw [← HXS.out] at SW
    obtain ⟨m, Hm⟩ : ∃ m, Hid (m = versR r) := ⟨_, rfl⟩
    rw [← Hm.out] at SW
    unfold rrV at SW
    go_wp2_with fail
    go_fit SW
    rintro _ w7 ⟨rfl, k7⟩
    have HR7 : Hid (CeAt w7 R ceZ) := k7.block _ _ HRX.out (fun x => x)
    have K7 : Hid (Kept Nil w w7) := KW.out.trans (HS.out.2.trans k7)
    clear k7 SW g0 g1 g2 g3
    unfold siV
    have fld : ∀ Z, (Instr.field 133 (.agg #[.string (bs x.v), .int .i64 x.n, .int .i64 x.s, .int .i64 x.h, .int .i64 x.g, .int .i64 m]) 0).run Tryz.prog Z = .ok (.agg #[.string (bs x.v), .int .i64 x.n, .int .i64 x.s, .int .i64 x.h, .int .i64 x.g]) Z := fun _ => by kernel_rfl
    have z0 := blk_free HR7.out 0
    have z1 := blk_free HR7.out 1
    have z2 := blk_free HR7.out 2
    have z3 := blk_free HR7.out 3
    have z4 := blk_free HR7.out 4
    have y0 : w7.cell? ⟨R, 0, none⟩ = some (.string (bs [])) := blk_at HR7.out 0 rfl
    have y1 : w7.cell? ⟨R, 1, none⟩ = some (.int .i64 0) := blk_at HR7.out 1 rfl
    have y2 : w7.cell? ⟨R, 2, none⟩ = some (.int .i64 0) := blk_at HR7.out 2 rfl
    have y3 : w7.cell? ⟨R, 3, none⟩ = some (.int .i64 0) := blk_at HR7.out 3 rfl
    have y4 : w7.cell? ⟨R, 4, none⟩ = some (.int .i64 0) := blk_at HR7.out 4 rfl
    obtain ⟨Y, hY⟩ : ∃ Y, Y = ((((w7.setCell ⟨R, 0, none⟩ (.string (bs x.v))).setCell ⟨R, 1, none⟩ (.int .i64 x.n)).setCell ⟨R, 2, none⟩ (.int .i64 x.s)).setCell ⟨R, 3, none⟩ (.int .i64 x.h)).setCell ⟨R, 4, none⟩ (.int .i64 x.g) := ⟨_, rfl⟩
    have HY : Hid (CeAt Y R x ∧ Kept Nil w Y) := by rw [hY]; exact ⟨ceAt5 HR7.out x, ((((K7.out.setNew (p := ⟨R, 0, none⟩) HRw.out _).setNew (p := ⟨R, 1, none⟩) HRw.out _).setNew (p := ⟨R, 2, none⟩) HRw.out _).setNew (p := ⟨R, 3, none⟩) HRw.out _).setNew (p := ⟨R, 4, none⟩) HRw.out _⟩
    go_wp2
    rw [← hY]
    have j0 := blk_at HY.out.1 0 rfl
    have j1 := blk_at HY.out.1 1 rfl
    have j2 := blk_at HY.out.1 2 rfl
    have j3 := blk_at HY.out.1 3 rfl
    have j4 := blk_at HY.out.1 4 rfl
    exact bodyPost_ret (v := ceV x) (by simp [results, Tryz.results97, go_sem, j0, j1, j2, j3, j4, ceV]) rfl ⟨rfl, HY.out.2⟩
end Go.Proofs.YtflnjlbafchnaaaGreatDoor
