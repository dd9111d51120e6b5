/-
  Cells: FirstCell, SeenCell (the document's).
-/
import Derived.Test.YtflnjlbafchnaaaGreatDoorWCd5
import Derived.Deep.RegionHeld3
import Derived.Deep.RegionWith
namespace Go.Proofs.YtflnjlbafchnaaaGreatDoor
open Go.RowKit

set_option maxRecDepth 100000 in
set_option maxHeartbeats 4000000 in
theorem refFirstCell_any (g : Nat) (w : World) : Calls Tryz.prog 84 #[.int .i64 g] w fun e w' => e = .returned (ccV (unsaid g)) ∧ Kept Nil w w' := by
  obtain ⟨X, hX⟩ : ∃ W, W = w.alloc (.cells #[.int .i64 0, .int .i64 0, .int .i64 0, .int .i64 0, .string ⟨#[]⟩] 140) := ⟨_, rfl⟩
  obtain ⟨R, HRe⟩ : ∃ A, Hid (A = w.heap.size) := ⟨_, rfl⟩
  have HR : Hid (CcAt X R 0 0 0 0 [] ∧ Kept Nil w X ∧ w.heap.size ≤ R) := by rw [hX, HRe.out]; exact ⟨blk_new _ _, (Kept.refl _ _).alloc _, Nat.le_refl _⟩
  have m0 : X.cell? ⟨R, 0, none⟩ = some (.int .i64 0) := blk_at HR.out.1 0 rfl
  have m1 : X.cell? ⟨R, 1, none⟩ = some (.int .i64 0) := blk_at HR.out.1 1 rfl
  have m2 : X.cell? ⟨R, 2, none⟩ = some (.int .i64 0) := blk_at HR.out.1 2 rfl
  have m3 : X.cell? ⟨R, 3, none⟩ = some (.int .i64 0) := blk_at HR.out.1 3 rfl
  have m4 : X.cell? ⟨R, 4, none⟩ = some (.string ⟨#[]⟩) := blk_at HR.out.1 4 rfl
  have o0 := blk_free HR.out.1 0
  have o1 := blk_free HR.out.1 1
  have o2 := blk_free HR.out.1 2
  have o3 := blk_free HR.out.1 3
  have o4 := blk_free HR.out.1 4
  obtain ⟨u, Hu⟩ : ∃ u, Hid (u = unsaid g) := ⟨_, rfl⟩
  rw [← Hu.out]
  go_enter Tryz.func84, Tryz.ntmps84
  go_upto_region 1 with fail
  rw [← hX, ← HRe.out]
  clear hX HRe
  by_cases h1 : g = 1
  · have h1b : ((g : Int) == 1) = true := by simp; omega
    obtain rfl : u = ⟨[], 0, 0, 0, 0⟩ := Hu.out.trans (if_pos h1)
    subst h1
    obtain ⟨Y, hY⟩ : ∃ Y, Y = (((((X.setCell ⟨R, 0, none⟩ (.int .i64 0)).setCell ⟨R, 1, none⟩ (.int .i64 0)).setCell ⟨R, 2, none⟩ (.int .i64 0)).setCell ⟨R, 3, none⟩ (.int .i64 0)).setCell ⟨R, 4, none⟩ (.string ⟨#[]⟩)) := ⟨_, rfl⟩
    have HY : Hid (CcAt Y R 0 0 0 0 [] ∧ Kept Nil w Y) := by rw [hY]; exact ⟨HR.out.1.all 0 0 0 0 [], ((((HR.out.2.1.setNew (p := ⟨R, 0, none⟩) HR.out.2.2 _).setNew (p := ⟨R, 1, none⟩) HR.out.2.2 _).setNew (p := ⟨R, 2, none⟩) HR.out.2.2 _).setNew (p := ⟨R, 3, none⟩) HR.out.2.2 _).setNew (p := ⟨R, 4, none⟩) HR.out.2.2 _⟩
    go_wp2
    rw [← hY]
    have j0 := blk_at HY.out.1 0 rfl
    have j1 := blk_at HY.out.1 1 rfl
    have j2 := blk_at HY.out.1 2 rfl
    have j3 := blk_at HY.out.1 3 rfl
    have j4 := blk_at HY.out.1 4 rfl
    exact bodyPost_ret (v := ccV ⟨[], 0, 0, 0, 0⟩) (by simp [results, Tryz.results84, go_sem, j0, j1, j2, j3, j4, ccV]) rfl ⟨rfl, HY.out.2⟩
  · have h1b : ((g : Int) == 1) = false := by simp; omega
    have h1n : ¬ (g : Int) = 1 := by omega
    obtain rfl : u = ⟨[], 0, 2, 0, 1⟩ := Hu.out.trans (if_neg h1)
    obtain ⟨Y, hY⟩ : ∃ Y, Y = (((((X.setCell ⟨R, 0, none⟩ (.int .i64 2)).setCell ⟨R, 1, none⟩ (.int .i64 0)).setCell ⟨R, 2, none⟩ (.int .i64 1)).setCell ⟨R, 3, none⟩ (.int .i64 0)).setCell ⟨R, 4, none⟩ (.string ⟨#[]⟩)) := ⟨_, rfl⟩
    have HY : Hid (CcAt Y R 2 0 1 0 [] ∧ Kept Nil w Y) := by rw [hY]; exact ⟨HR.out.1.all 2 0 1 0 [], ((((HR.out.2.1.setNew (p := ⟨R, 0, none⟩) HR.out.2.2 _).setNew (p := ⟨R, 1, none⟩) HR.out.2.2 _).setNew (p := ⟨R, 2, none⟩) HR.out.2.2 _).setNew (p := ⟨R, 3, none⟩) HR.out.2.2 _).setNew (p := ⟨R, 4, none⟩) HR.out.2.2 _⟩
    go_wp2
    rw [← hY]
    have j0 := blk_at HY.out.1 0 rfl
    have j1 := blk_at HY.out.1 1 rfl
    have j2 := blk_at HY.out.1 2 rfl
    have j3 := blk_at HY.out.1 3 rfl
    have j4 := blk_at HY.out.1 4 rfl
    exact bodyPost_ret (v := ccV ⟨[], 0, 2, 0, 1⟩) (by simp [results, Tryz.results84, go_sem, j0, j1, j2, j3, j4, ccV]) rfl ⟨rfl, HY.out.2⟩
def SePost (w : World) (c : Ce) (v : Int) (e : Ending) (w' : World) : Prop := e = .returned (.tuple #[ccV c, .int .i64 v]) ∧ Kept Nil w w'
set_option maxRecDepth 100000 in
set_option maxHeartbeats 8000000 in
theorem refSeenCell_any (g : Nat) (r : Rr) (ko : Option Addr) (kc : Nat) (hl : (r.v.length : Int) ≤ 4611686018427387904) (w : World) : Calls Tryz.prog 95 #[.int .i64 g, rrV r ko kc] w (SePost w (sawC g r) (versR r)) := by
  obtain ⟨rkd, rv, rn, rks⟩ := r
  simp only at hl
  unfold rrV
  simp only
  obtain ⟨W0, hW0⟩ : ∃ W, W = w.alloc (.cells #[.int .i64 rkd, .string (bs rv), .int .i64 rn, .slice ko rks.length kc] 50) := ⟨_, rfl⟩
  obtain ⟨A, HAe⟩ : ∃ A, Hid (A = w.heap.size) := ⟨_, rfl⟩
  have HA0 : Hid (W0.heap[A]? = some (.cells #[.int .i64 rkd, .string (bs rv), .int .i64 rn, .slice ko rks.length kc] 50 (0, 0))) := by rw [hW0, HAe.out]; exact blk_new _ _
  have KW0 : Hid (Kept Nil w W0) := by rw [hW0]; exact (Kept.refl _ _).alloc _
  obtain ⟨W, hW⟩ : ∃ W, W = W0.alloc (.cells #[.int .i64 0, .int .i64 0, .int .i64 0, .int .i64 0, .string ⟨#[]⟩] 140) := ⟨_, rfl⟩
  have hWs : W0.heap.size = w.heap.size + 1 := by rw [hW0]; simp
  obtain ⟨R, HRe⟩ : ∃ A, Hid (A = w.heap.size + 1) := ⟨_, rfl⟩
  have HRw : Hid (w.heap.size ≤ R) := by show _ ≤ _; rw [HRe.out]; omega
  have HRW : Hid (CcAt W R 0 0 0 0 []) := by rw [hW, HRe.out, ← hWs]; exact blk_new _ _
  have HAW : Hid (W.heap[A]? = some (.cells #[.int .i64 rkd, .string (bs rv), .int .i64 rn, .slice ko rks.length kc] 50 (0, 0))) := by rw [hW]; exact blk_past HA0.out _
  have KW : Hid (Kept Nil w W) := by rw [hW]; exact KW0.out.alloc _
  have hRA : R ≠ A := by rw [HRe.out]; have := lt_of_block HA0.out; omega
  clear hWs
  have hAR : A ≠ R := fun e => hRA e.symm
  have a1 : W.cell? ⟨A, 1, none⟩ = some (.string (bs rv)) := blk_at HAW.out 1 rfl
  have CO := refCellOf_any rv hl W
  have HUN : Hid (∀ Y, CcAt Y R 0 0 0 0 [] → ∀ c : Ce, CcAt (((((Y.setCell ⟨R, 0, none⟩ (.int .i64 c.s)).setCell ⟨R, 1, none⟩ (.int .i64 c.h)).setCell ⟨R, 2, none⟩ (.int .i64 c.g)).setCell ⟨R, 3, none⟩ (.int .i64 c.n)).setCell ⟨R, 4, none⟩ (.string (bs c.v))) R c.s c.h c.g c.n c.v) := fun Y hY c => hY.all _ _ _ _ _
  have HKN : Hid (∀ Y, Kept Nil w Y → ∀ c : Ce, Kept Nil w (((((Y.setCell ⟨R, 0, none⟩ (.int .i64 c.s)).setCell ⟨R, 1, none⟩ (.int .i64 c.h)).setCell ⟨R, 2, none⟩ (.int .i64 c.g)).setCell ⟨R, 3, none⟩ (.int .i64 c.n)).setCell ⟨R, 4, none⟩ (.string (bs c.v)))) := fun Y kY c => ((((kY.setNew (p := ⟨R, 0, none⟩) HRw.out _).setNew (p := ⟨R, 1, none⟩) HRw.out _).setNew (p := ⟨R, 2, none⟩) HRw.out _).setNew (p := ⟨R, 3, none⟩) HRw.out _).setNew (p := ⟨R, 4, none⟩) HRw.out _
  obtain ⟨S, HSd⟩ : ∃ S, Hid (S = sawC g ⟨rkd, rv, rn, rks⟩) := ⟨_, rfl⟩
  obtain ⟨vv, HVd⟩ : ∃ S, Hid (S = versR ⟨rkd, rv, rn, rks⟩) := ⟨_, rfl⟩
  rw [← HSd.out, ← HVd.out]
  go_enter Tryz.func95, Tryz.ntmps95
  go_upto_region 1 with fail
  (try simp only [← hW0])
  rw [← hW, ← HRe.out, ← HAe.out]
  clear hW0 hW HRe HAe HA0 KW0
  go_wp2_with fail
  go_fit CO
  intro ee w1 hco
  obtain ⟨c, ok, HCO, rfl, k1⟩ : ∃ (c : Ce) (ok : Bool), Hid ((ok = true ∧ ceOf rv = some c) ∨ (ok = false ∧ ceOf rv = none)) ∧ ee = .returned (.tuple #[ccV c, .bool ok]) ∧ Kept Nil W w1 := by
    rcases hco with ⟨c, h1, h2, h3⟩ | ⟨h1, h2, h3⟩
    · exact ⟨c, true, .inl ⟨rfl, by rw [← ceD_is]; exact h1⟩, h2, h3⟩
    · exact ⟨_, false, .inr ⟨rfl, by rw [← ceD_is]; exact h1⟩, h2, h3⟩
  clear hco CO
  unfold ccV
  simp only
  obtain ⟨W1, hW1⟩ : ∃ Y, Y = w1.alloc (.cells #[.int .i64 c.s, .int .i64 c.h, .int .i64 c.g, .int .i64 c.n, .string (bs c.v)] 140) := ⟨_, rfl⟩
  obtain ⟨C, HCe⟩ : ∃ A, Hid (A = w1.heap.size) := ⟨_, rfl⟩
  have HCB : Hid (CcAt W1 C c.s c.h c.g c.n c.v) := by rw [hW1, HCe.out]; exact blk_new _ _
  have K1 : Hid (Kept Nil W W1) := by rw [hW1]; exact Kept.alloc k1 _
  have hCR : C ≠ R := by rw [HCe.out]; have := lt_of_block HRW.out; have := k1.size; omega
  have hRC : R ≠ C := fun e => hCR e.symm
  go_upto_region 2 with fail
  rw [← hW1, ← HCe.out]
  clear hW1 HCe k1 a1
  have HRW1 : Hid (CcAt W1 R 0 0 0 0 []) := K1.out.block _ _ HRW.out (fun x => x)
  have HAW1 : Hid (W1.heap[A]? = some (.cells #[.int .i64 rkd, .string (bs rv), .int .i64 rn, .slice ko rks.length kc] 50 (0, 0))) := K1.out.block _ _ HAW.out (fun x => x)
  have a0 : W1.cell? ⟨A, 0, none⟩ = some (.int .i64 rkd) := blk_at HAW1.out 0 rfl
  have a2 : W1.cell? ⟨A, 2, none⟩ = some (.int .i64 rn) := blk_at HAW1.out 2 rfl
  have KW1 : Hid (Kept Nil w W1) := KW.out.trans K1.out
  obtain ⟨u, Hu⟩ : ∃ u, Hid (u = unsaid g) := ⟨_, rfl⟩
  have FC : ∀ Y, Calls Tryz.prog 84 #[.int .i64 g] Y fun e w' => e = .returned (.agg #[.int .i64 u.s, .int .i64 u.h, .int .i64 u.g, .int .i64 u.n, .string (bs u.v)]) ∧ Kept Nil Y w' := fun Y => by
    have := refFirstCell_any g Y
    rw [← Hu.out] at this
    exact this
  by_cases hkd : rkd = 1
  · obtain rfl : rn = vv := (HVd.out.trans (if_pos hkd)).symm
    have hkb : (rkd != 1) = false := by simp [hkd]
    cases ok with
    | true =>
      obtain rfl : c = S := by
        symm
        rw [HSd.out]
        have h1 : ceOf rv = some c := by rcases HCO.out with h | h; exact h.2; exact absurd h.1 (by decide)
        show (if rkd = 1 then (ceOf rv).getD (unsaid g) else unsaid g) = c
        rw [if_pos hkd, h1]
        rfl
      subst hkd
      clear FC HCO
      have m0 : W1.cell? ⟨R, 0, none⟩ = some (.int .i64 0) := blk_at HRW1.out 0 rfl
      have m1 : W1.cell? ⟨R, 1, none⟩ = some (.int .i64 0) := blk_at HRW1.out 1 rfl
      have m2 : W1.cell? ⟨R, 2, none⟩ = some (.int .i64 0) := blk_at HRW1.out 2 rfl
      have m3 : W1.cell? ⟨R, 3, none⟩ = some (.int .i64 0) := blk_at HRW1.out 3 rfl
      have m4 : W1.cell? ⟨R, 4, none⟩ = some (.string ⟨#[]⟩) := blk_at HRW1.out 4 rfl
      have o0 := blk_free HRW1.out 0
      have o1 := blk_free HRW1.out 1
      have o2 := blk_free HRW1.out 2
      have o3 := blk_free HRW1.out 3
      have o4 := blk_free HRW1.out 4
      have c0 : W1.cell? ⟨C, 0, none⟩ = some (.int .i64 c.s) := blk_at HCB.out 0 rfl
      have c1 : W1.cell? ⟨C, 1, none⟩ = some (.int .i64 c.h) := blk_at HCB.out 1 rfl
      have c2 : W1.cell? ⟨C, 2, none⟩ = some (.int .i64 c.g) := blk_at HCB.out 2 rfl
      have c3 : W1.cell? ⟨C, 3, none⟩ = some (.int .i64 c.n) := blk_at HCB.out 3 rfl
      have c4 : W1.cell? ⟨C, 4, none⟩ = some (.string (bs c.v)) := blk_at HCB.out 4 rfl
      go_upto_region 6 with fail
      go_region
      all_goals
        obtain ⟨Y, hY⟩ : ∃ Y, Y = (((((W1.setCell ⟨R, 0, none⟩ (.int .i64 c.s)).setCell ⟨R, 1, none⟩ (.int .i64 c.h)).setCell ⟨R, 2, none⟩ (.int .i64 c.g)).setCell ⟨R, 3, none⟩ (.int .i64 c.n)).setCell ⟨R, 4, none⟩ (.string (bs c.v))).drew := ⟨_, rfl⟩
        have HY : Hid (CcAt Y R c.s c.h c.g c.n c.v ∧ Kept Nil w Y) := by rw [hY]; exact ⟨HUN.out W1 HRW1.out c, (HKN.out W1 KW1.out c).drew⟩
        (try go_wp2)
        rw [← hY]
        have j0 := blk_at HY.out.1 0 rfl
        have j1 := blk_at HY.out.1 1 rfl
        have j2 := blk_at HY.out.1 2 rfl
        have j3 := blk_at HY.out.1 3 rfl
        have j4 := blk_at HY.out.1 4 rfl
        exact bodyPost_ret (v := .tuple #[ccV c, .int .i64 rn]) (by simp [results, Tryz.results95, go_sem, j0, j1, j2, j3, j4, ccV]) rfl ⟨rfl, HY.out.2⟩
    | false =>
      obtain rfl : u = S := by
        symm
        rw [HSd.out]
        have h1 : ceOf rv = none := by rcases HCO.out with h | h; exact absurd h.1 (by decide); exact h.2
        show (if rkd = 1 then (ceOf rv).getD (unsaid g) else unsaid g) = u
        rw [if_pos hkd, h1, Hu.out]
        rfl
      subst hkd
      clear HCO
      have HSP : Hid (∀ Y, Kept Nil W1 Y → Y.cell? ⟨A, 2, none⟩ = some (.int .i64 rn) ∧ CcAt Y R 0 0 0 0 [] ∧ Kept Nil w Y) := fun Y kY => ⟨blk_at (kY.block _ _ HAW1.out (fun x => x)) 2 rfl, kY.block _ _ HRW1.out (fun x => x), KW1.out.trans kY⟩
      have FCD := FC W1.drew
      have aD := (HSP.out W1.drew (Kept.refl _ _).drew).1
      go_upto_region 5 with fail
      go_region_held3 (fun w' => w'.cell? ⟨A, 2, none⟩ = some (.int .i64 rn)) (first | (with_reducible assumption) | go_keep) (first | (go_at_call 84; go_must (go_fit FCD); rintro _ wf ⟨rfl, kf⟩; have KF : Hid (Kept Nil W1 wf) := ((Kept.refl _ _).drew).trans kf; have sf := (HSP.out wf KF.out).1; have HRF : Hid (CcAt wf R 0 0 0 0 []) := (HSP.out wf KF.out).2.1; have m0 : wf.cell? ⟨R, 0, none⟩ = some (.int .i64 0) := blk_at HRF.out 0 rfl; have m1 : wf.cell? ⟨R, 1, none⟩ = some (.int .i64 0) := blk_at HRF.out 1 rfl; have m2 : wf.cell? ⟨R, 2, none⟩ = some (.int .i64 0) := blk_at HRF.out 2 rfl; have m3 : wf.cell? ⟨R, 3, none⟩ = some (.int .i64 0) := blk_at HRF.out 3 rfl; have m4 : wf.cell? ⟨R, 4, none⟩ = some (.string ⟨#[]⟩) := blk_at HRF.out 4 rfl; have o0 := blk_free HRF.out 0; have o1 := blk_free HRF.out 1; have o2 := blk_free HRF.out 2; have o3 := blk_free HRF.out 3; have o4 := blk_free HRF.out 4; clear kf))
      all_goals
        obtain ⟨Y, hY⟩ : ∃ Y, Y = (((((wf.setCell ⟨R, 0, none⟩ (.int .i64 u.s)).setCell ⟨R, 1, none⟩ (.int .i64 u.h)).setCell ⟨R, 2, none⟩ (.int .i64 u.g)).setCell ⟨R, 3, none⟩ (.int .i64 u.n)).setCell ⟨R, 4, none⟩ (.string (bs u.v))) := ⟨_, rfl⟩
        have HY : Hid (CcAt Y R u.s u.h u.g u.n u.v ∧ Kept Nil w Y) := by rw [hY]; exact ⟨HUN.out wf HRF.out u, HKN.out wf (KW1.out.trans KF.out) u⟩
        (try go_wp2)
        rw [← hY]
        have j0 := blk_at HY.out.1 0 rfl
        have j1 := blk_at HY.out.1 1 rfl
        have j2 := blk_at HY.out.1 2 rfl
        have j3 := blk_at HY.out.1 3 rfl
        have j4 := blk_at HY.out.1 4 rfl
        exact bodyPost_ret (v := .tuple #[ccV u, .int .i64 rn]) (by simp [results, Tryz.results95, go_sem, j0, j1, j2, j3, j4, ccV]) rfl ⟨rfl, HY.out.2⟩
  · obtain rfl : vv = 0 := HVd.out.trans (if_neg hkd)
    have hkb : (rkd != 1) = true := by simp [hkd]
    obtain rfl : u = S := by symm; rw [HSd.out, Hu.out]; exact if_neg hkd
    have FC1 := FC W1
    go_wp2_with fail
    go_fit FC1
    rintro ee w2 ⟨rfl, k2⟩
    have HR2 : Hid (CcAt w2 R 0 0 0 0 []) := k2.block _ _ HRW1.out (fun x => x)
    have K2 : Hid (Kept Nil w w2) := KW1.out.trans k2
    clear FC1 FC k2 HCO
    have m0 : w2.cell? ⟨R, 0, none⟩ = some (.int .i64 0) := blk_at HR2.out 0 rfl
    have m1 : w2.cell? ⟨R, 1, none⟩ = some (.int .i64 0) := blk_at HR2.out 1 rfl
    have m2 : w2.cell? ⟨R, 2, none⟩ = some (.int .i64 0) := blk_at HR2.out 2 rfl
    have m3 : w2.cell? ⟨R, 3, none⟩ = some (.int .i64 0) := blk_at HR2.out 3 rfl
    have m4 : w2.cell? ⟨R, 4, none⟩ = some (.string ⟨#[]⟩) := blk_at HR2.out 4 rfl
    have o0 := blk_free HR2.out 0
    have o1 := blk_free HR2.out 1
    have o2 := blk_free HR2.out 2
    have o3 := blk_free HR2.out 3
    have o4 := blk_free HR2.out 4
    obtain ⟨Y, hY⟩ : ∃ Y, Y = (((((w2.setCell ⟨R, 0, none⟩ (.int .i64 u.s)).setCell ⟨R, 1, none⟩ (.int .i64 u.h)).setCell ⟨R, 2, none⟩ (.int .i64 u.g)).setCell ⟨R, 3, none⟩ (.int .i64 u.n)).setCell ⟨R, 4, none⟩ (.string (bs u.v))) := ⟨_, rfl⟩
    have HY : Hid (CcAt Y R u.s u.h u.g u.n u.v ∧ Kept Nil w Y) := by rw [hY]; exact ⟨HUN.out w2 HR2.out u, HKN.out w2 K2.out u⟩
    go_wp2
    rw [← hY]
    have j0 := blk_at HY.out.1 0 rfl
    have j1 := blk_at HY.out.1 1 rfl
    have j2 := blk_at HY.out.1 2 rfl
    have j3 := blk_at HY.out.1 3 rfl
    have j4 := blk_at HY.out.1 4 rfl
    exact bodyPost_ret (v := .tuple #[ccV u, .int .i64 0]) (by simp [results, Tryz.results95, go_sem, j0, j1, j2, j3, j4, ccV]) rfl ⟨rfl, HY.out.2⟩
end Go.Proofs.YtflnjlbafchnaaaGreatDoor
