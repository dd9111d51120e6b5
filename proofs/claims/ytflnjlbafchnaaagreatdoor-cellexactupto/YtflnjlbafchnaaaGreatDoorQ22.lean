/-
  Joined: WCd5, WCd6.
-/
import Derived.Test.YtflnjlbafchnaaaGreatDoorQ21
import Derived.Deep.RegionHeld3
import Derived.Deep.RegionWith
/-
  Cells: CellOf, whole (the document's).
-/
namespace Go.Proofs.YtflnjlbafchnaaaGreatDoor
open Go.RowKit

theorem say_cases (T : List UInt8) : (T = wHere ∧ sayOf T = some 0) ∨ (T = wMov ∧ sayOf T = some 1) ∨ (T = wGon ∧ sayOf T = some 2) ∨ (T ≠ wHere ∧ T ≠ wMov ∧ T ≠ wGon ∧ sayOf T = none) := by
  unfold sayOf
  by_cases a : T = wHere
  · exact .inl ⟨a, if_pos a⟩
  · by_cases b : T = wMov
    · exact .inr (.inl ⟨b, by rw [if_neg a, if_pos b]⟩)
    · by_cases c : T = wGon
      · exact .inr (.inr (.inl ⟨c, by rw [if_neg a, if_neg b, if_pos c]⟩))
      · exact .inr (.inr (.inr ⟨a, b, c, by rw [if_neg a, if_neg b, if_neg c]⟩))
theorem bs_eqD (T m : List UInt8) : ((bs T).toList == m) = decide (T = m) := by
  rw [bs_toList]
  by_cases h : T = m
  · rw [decide_eq_true h, h]; simp
  · rw [decide_eq_false h]; simpa using h
set_option maxRecDepth 100000 in
set_option maxHeartbeats 8000000 in
theorem refCellOf_any (l : List UInt8) (hl : (l.length : Int) ≤ 4611686018427387904) (w : World) : Calls Tryz.prog 131 #[.string (bs l)] w (CoPost w l) := by
  obtain ⟨W0, hW0⟩ : ∃ W, W = w.alloc (.cells #[.int .i64 0, .int .i64 0, .int .i64 0, .int .i64 0, .string ⟨#[]⟩] 140) := ⟨_, rfl⟩
  obtain ⟨R, HRe⟩ : ∃ A, Hid (A = w.heap.size) := ⟨_, rfl⟩
  have HR0 : Hid (CcAt W0 R 0 0 0 0 []) := by rw [hW0, HRe.out]; exact blk_new _ _
  have KW0 : Hid (Kept Nil w W0) := by rw [hW0]; exact (Kept.refl _ _).alloc _
  obtain ⟨W1, hW1⟩ : ∃ W, W = W0.alloc (.cells #[.int .i64 (-1), .int .i64 0, .int .i64 0, .int .i64 0, .string ⟨#[]⟩] 140) := ⟨_, rfl⟩
  obtain ⟨C, HCe⟩ : ∃ A, Hid (A = W0.heap.size) := ⟨_, rfl⟩
  have HA : Hid (Cc2 w W1 R C (-1) 0 0 0 []) := by
    refine ⟨?_, by rw [hW1, HCe.out]; exact blk_new _ _, by rw [hW1]; exact KW0.out.alloc _, by rw [HRe.out]; exact Nat.le_refl _, by rw [HCe.out]; exact KW0.out.size, ?_⟩
    · rw [hW1]; exact blk_past HR0.out _
    · rw [HCe.out]; have := lt_of_block HR0.out; omega
  have hRC : R ≠ C := HA.out.ne
  have hCR : C ≠ R := fun e => hRC e.symm
  have RW := refWordAt_any l 0 (Nat.zero_le _) hl W0
  rw [show l.drop 0 = l from rfl] at RW
  obtain ⟨T, HT⟩ : ∃ T, Hid (T = tw l) := ⟨_, rfl⟩
  rw [← HT.out] at RW
  have HDK : Hid (∀ k : Nat, k = 0 + T.length → l.drop k = dw l) := fun k hk => by
    have := dw_drop (l := l) (a := 0) (k := k) (by rw [hk, HT.out]; rfl)
    exact this
  have HCD : Hid (ceD l = match sayOf T with | none => none | some s => hdD s (dw l)) := by rw [HT.out]; rfl
  go_enter Tryz.func131, Tryz.ntmps131
  go_upto_region 1 with fail
  rw [← hW0, ← HRe.out]
  clear hW0 HRe
  go_wp2_with fail
  go_fit RW
  rintro ee w1 ⟨k, rfl, hk, hkl, hw1⟩
  rw [hw1]
  have HLK : Hid (l.drop k = dw l) := HDK.out k hk
  clear RW hw1 hk HDK
  go_upto_region 3 with fail
  rw [← hW1, ← HCe.out]
  clear hW1 HCe
  have x0 : W1.cell? ⟨C, 0, none⟩ = some (.int .i64 (-1)) := blk_at HA.out.c 0 rfl
  have f0 := blk_free HA.out.c 0
  have b0 := bs_eqD T [104, 101, 114, 101]
  have b1 := bs_eqD T [109, 111, 118, 105, 110, 103]
  have b2 := bs_eqD T [103, 111, 110, 101]
  rcases say_cases T with ⟨ht, hs⟩ | ⟨ht, hs⟩ | ⟨ht, hs⟩ | ⟨h0, h1, h2, hs⟩
  · have HD : Hid (ceD l = hdD 0 (l.drop k)) := by have := HCD.out; rw [hs] at this; rw [HLK.out]; exact this
    rw [decide_eq_true (show T = [104, 101, 114, 101] from ht)] at b0
    rw [decide_eq_false (show ¬ T = [109, 111, 118, 105, 110, 103] from fun e => by rw [ht] at e; exact absurd e (by decide))] at b1
    rw [decide_eq_false (show ¬ T = [103, 111, 110, 101] from fun e => by rw [ht] at e; exact absurd e (by decide))] at b2
    obtain ⟨X1, hX1⟩ : ∃ Y, Y = W1.setCell ⟨C, 0, none⟩ (.int .i64 0) := ⟨_, rfl⟩
    have HB : Hid (Cc2 w X1 R C ((0 : Nat) : Int) 0 0 0 []) := by rw [hX1]; exact ⟨HA.out.r.off HA.out.ne.symm 0 _, HA.out.c.s0 _, HA.out.kw.setNew (p := ⟨C, 0, none⟩) HA.out.cw _, HA.out.rw, HA.out.cw, HA.out.ne⟩
    have y0 : X1.cell? ⟨C, 0, none⟩ = some (.int .i64 0) := blk_at HB.out.c 0 rfl
    clear ht hs HCD
    go_upto_region 5 with fail
    rw [← hX1]
    clear hX1 x0 f0
    go_upto_if 24 with fail
    go_cut [3] from 7 to 25 (fun _ wc => wc = X1)
    case first =>
      go_wp2
      go_meet
      rfl
    case rest =>
      rw [hcut]
      apply_assumption
      exact oTail11 w X1 R C k 0 l _ _ _ _ _ _ _ _ _ _ _ _ _ _ _ _ _ _ _ _ _ _ _ _ _ _ _ _ _ _ _ _ _ _ _ _ _ _ _ _ _ _ _ _ _ _ _ _ _ _ _ _ _ _ _ _ _ _ _ _ _ _ _ _ _ _ _ _ _ _ _ _ _ _ _ _ _ _ _ _ _ _ _ _ _ _ _ _ _ _ _ _ _ _ _ _ _ HB HD hkl hl (by omega)
  · have HD : Hid (ceD l = hdD 1 (l.drop k)) := by have := HCD.out; rw [hs] at this; rw [HLK.out]; exact this
    rw [decide_eq_false (show ¬ T = [104, 101, 114, 101] from fun e => by rw [ht] at e; exact absurd e (by decide))] at b0
    rw [decide_eq_true (show T = [109, 111, 118, 105, 110, 103] from ht)] at b1
    rw [decide_eq_false (show ¬ T = [103, 111, 110, 101] from fun e => by rw [ht] at e; exact absurd e (by decide))] at b2
    obtain ⟨X1, hX1⟩ : ∃ Y, Y = W1.setCell ⟨C, 0, none⟩ (.int .i64 1) := ⟨_, rfl⟩
    have HB : Hid (Cc2 w X1 R C ((1 : Nat) : Int) 0 0 0 []) := by rw [hX1]; exact ⟨HA.out.r.off HA.out.ne.symm 0 _, HA.out.c.s0 _, HA.out.kw.setNew (p := ⟨C, 0, none⟩) HA.out.cw _, HA.out.rw, HA.out.cw, HA.out.ne⟩
    have y0 : X1.cell? ⟨C, 0, none⟩ = some (.int .i64 1) := blk_at HB.out.c 0 rfl
    clear ht hs HCD
    go_upto_region 7 with fail
    rw [← hX1]
    clear hX1 x0 f0
    go_upto_if 24 with fail
    go_cut [3] from 7 to 25 (fun _ wc => wc = X1)
    case first =>
      go_wp2
      go_meet
      rfl
    case rest =>
      rw [hcut]
      apply_assumption
      exact oTail11 w X1 R C k 1 l _ _ _ _ _ _ _ _ _ _ _ _ _ _ _ _ _ _ _ _ _ _ _ _ _ _ _ _ _ _ _ _ _ _ _ _ _ _ _ _ _ _ _ _ _ _ _ _ _ _ _ _ _ _ _ _ _ _ _ _ _ _ _ _ _ _ _ _ _ _ _ _ _ _ _ _ _ _ _ _ _ _ _ _ _ _ _ _ _ _ _ _ _ _ _ _ _ HB HD hkl hl (by omega)
  · have HD : Hid (ceD l = hdD 2 (l.drop k)) := by have := HCD.out; rw [hs] at this; rw [HLK.out]; exact this
    rw [decide_eq_false (show ¬ T = [104, 101, 114, 101] from fun e => by rw [ht] at e; exact absurd e (by decide))] at b0
    rw [decide_eq_false (show ¬ T = [109, 111, 118, 105, 110, 103] from fun e => by rw [ht] at e; exact absurd e (by decide))] at b1
    rw [decide_eq_true (show T = [103, 111, 110, 101] from ht)] at b2
    obtain ⟨X1, hX1⟩ : ∃ Y, Y = W1.setCell ⟨C, 0, none⟩ (.int .i64 2) := ⟨_, rfl⟩
    have HB : Hid (Cc2 w X1 R C ((2 : Nat) : Int) 0 0 0 []) := by rw [hX1]; exact ⟨HA.out.r.off HA.out.ne.symm 0 _, HA.out.c.s0 _, HA.out.kw.setNew (p := ⟨C, 0, none⟩) HA.out.cw _, HA.out.rw, HA.out.cw, HA.out.ne⟩
    have y0 : X1.cell? ⟨C, 0, none⟩ = some (.int .i64 2) := blk_at HB.out.c 0 rfl
    clear ht hs HCD
    go_upto_region 9 with fail
    rw [← hX1]
    clear hX1 x0 f0
    go_upto_if 24 with fail
    go_cut [3] from 7 to 25 (fun _ wc => wc = X1)
    case first =>
      go_wp2
      go_meet
      rfl
    case rest =>
      rw [hcut]
      apply_assumption
      exact oTail11 w X1 R C k 2 l _ _ _ _ _ _ _ _ _ _ _ _ _ _ _ _ _ _ _ _ _ _ _ _ _ _ _ _ _ _ _ _ _ _ _ _ _ _ _ _ _ _ _ _ _ _ _ _ _ _ _ _ _ _ _ _ _ _ _ _ _ _ _ _ _ _ _ _ _ _ _ _ _ _ _ _ _ _ _ _ _ _ _ _ _ _ _ _ _ _ _ _ _ _ _ _ _ HB HD hkl hl (by omega)
  · have HN : Hid (ceD l = none) := by have := HCD.out; rw [hs] at this; exact this
    rw [decide_eq_false (show ¬ T = [104, 101, 114, 101] from h0)] at b0
    rw [decide_eq_false (show ¬ T = [109, 111, 118, 105, 110, 103] from h1)] at b1
    rw [decide_eq_false (show ¬ T = [103, 111, 110, 101] from h2)] at b2
    clear h0 h1 h2 hs HCD
    have m0 : W1.cell? ⟨R, 0, none⟩ = some (.int .i64 0) := blk_at HA.out.r 0 rfl
    have m1 : W1.cell? ⟨R, 1, none⟩ = some (.int .i64 0) := blk_at HA.out.r 1 rfl
    have m2 : W1.cell? ⟨R, 2, none⟩ = some (.int .i64 0) := blk_at HA.out.r 2 rfl
    have m3 : W1.cell? ⟨R, 3, none⟩ = some (.int .i64 0) := blk_at HA.out.r 3 rfl
    have m4 : W1.cell? ⟨R, 4, none⟩ = some (.string ⟨#[]⟩) := blk_at HA.out.r 4 rfl
    have o0 := blk_free HA.out.r 0
    have o1 := blk_free HA.out.r 1
    have o2 := blk_free HA.out.r 2
    have o3 := blk_free HA.out.r 3
    have o4 := blk_free HA.out.r 4
    obtain ⟨Y, hY⟩ : ∃ Y, Y = (((((W1.setCell ⟨R, 0, none⟩ (.int .i64 0)).setCell ⟨R, 1, none⟩ (.int .i64 0)).setCell ⟨R, 2, none⟩ (.int .i64 0)).setCell ⟨R, 3, none⟩ (.int .i64 0)).setCell ⟨R, 4, none⟩ (.string ⟨#[]⟩)) := ⟨_, rfl⟩
    have HY : Hid (CcAt Y R 0 0 0 0 [] ∧ Kept Nil w Y) := by rw [hY]; exact HA.out.ret 0 0 0 0 []
    go_wp2
    rw [← hY]
    have j0 := blk_at HY.out.1 0 rfl
    have j1 := blk_at HY.out.1 1 rfl
    have j2 := blk_at HY.out.1 2 rfl
    have j3 := blk_at HY.out.1 3 rfl
    have j4 := blk_at HY.out.1 4 rfl
    exact bodyPost_ret (v := .tuple #[ccV ⟨[], 0, 0, 0, 0⟩, .bool false]) (by simp [results, Tryz.results131, go_sem, j0, j1, j2, j3, j4, ccV]) rfl (.inr ⟨HN.out, rfl, HY.out.2⟩)
end Go.Proofs.YtflnjlbafchnaaaGreatDoor

/-
  Cells: FirstCell, SeenCell (the document's).
-/
namespace Go.Proofs.YtflnjlbafchnaaaGreatDoor
open Go.RowKit

set_option maxRecDepth 100000 in
set_option maxHeartbeats 4000000 in
theorem refFirstCell_any (g : Nat) (w : World) : Calls Tryz.prog 84 #[.int .i64 g] w fun e w' => e = .returned (ccV (unsaid g)) ∧ Kept Nil w w' := by
  obtain ⟨X, hX⟩ : ∃ W, W = w.alloc (.cells #[.int .i64 0, .int .i64 0, .int .i64 0, .int .i64 0, .string ⟨#[]⟩] 140) := ⟨_, rfl⟩
  obtain ⟨R, HRe⟩ : ∃ A, Hid (A = w.heap.size) := ⟨_, rfl⟩
  have HR : Hid (CcAt X R 0 0 0 0 [] ∧ Kept Nil w X ∧ w.heap.size ≤ R) := by rw [hX, HRe.out]; exact ⟨blk_new _ _, (Kept.refl _ _).alloc _, Nat.le_refl _⟩
  have m0 : X.cell? ⟨R, 0, none⟩ = some (.int .i64 0) := blk_at HR.out.1 0 rfl
  have m1 : X.cell? ⟨R, 1, none⟩ = some (.int .i64 0) := blk_at HR.out.1 1 rfl
  have m2 : X.cell? ⟨R, 2, none⟩ = some (.int .i64 0) := blk_at HR.out.1 2 rfl
  have m3 : X.cell? ⟨R, 3, none⟩ = some (.int .i64 0) := blk_at HR.out.1 3 rfl
  have m4 : X.cell? ⟨R, 4, none⟩ = some (.string ⟨#[]⟩) := blk_at HR.out.1 4 rfl
  have o0 := blk_free HR.out.1 0
  have o1 := blk_free HR.out.1 1
  have o2 := blk_free HR.out.1 2
  have o3 := blk_free HR.out.1 3
  have o4 := blk_free HR.out.1 4
  obtain ⟨u, Hu⟩ : ∃ u, Hid (u = unsaid g) := ⟨_, rfl⟩
  rw [← Hu.out]
  go_enter Tryz.func84, Tryz.ntmps84
  go_upto_region 1 with fail
  rw [← hX, ← HRe.out]
  clear hX HRe
  by_cases h1 : g = 1
  · have h1b : ((g : Int) == 1) = true := by simp; omega
    obtain rfl : u = ⟨[], 0, 0, 0, 0⟩ := Hu.out.trans (if_pos h1)
    subst h1
    obtain ⟨Y, hY⟩ : ∃ Y, Y = (((((X.setCell ⟨R, 0, none⟩ (.int .i64 0)).setCell ⟨R, 1, none⟩ (.int .i64 0)).setCell ⟨R, 2, none⟩ (.int .i64 0)).setCell ⟨R, 3, none⟩ (.int .i64 0)).setCell ⟨R, 4, none⟩ (.string ⟨#[]⟩)) := ⟨_, rfl⟩
    have HY : Hid (CcAt Y R 0 0 0 0 [] ∧ Kept Nil w Y) := by rw [hY]; exact ⟨HR.out.1.all 0 0 0 0 [], ((((HR.out.2.1.setNew (p := ⟨R, 0, none⟩) HR.out.2.2 _).setNew (p := ⟨R, 1, none⟩) HR.out.2.2 _).setNew (p := ⟨R, 2, none⟩) HR.out.2.2 _).setNew (p := ⟨R, 3, none⟩) HR.out.2.2 _).setNew (p := ⟨R, 4, none⟩) HR.out.2.2 _⟩
    go_wp2
    rw [← hY]
    have j0 := blk_at HY.out.1 0 rfl
    have j1 := blk_at HY.out.1 1 rfl
    have j2 := blk_at HY.out.1 2 rfl
    have j3 := blk_at HY.out.1 3 rfl
    have j4 := blk_at HY.out.1 4 rfl
    exact bodyPost_ret (v := ccV ⟨[], 0, 0, 0, 0⟩) (by simp [results, Tryz.results84, go_sem, j0, j1, j2, j3, j4, ccV]) rfl ⟨rfl, HY.out.2⟩
  · have h1b : ((g : Int) == 1) = false := by simp; omega
    have h1n : ¬ (g : Int) = 1 := by omega
    obtain rfl : u = ⟨[], 0, 2, 0, 1⟩ := Hu.out.trans (if_neg h1)
    obtain ⟨Y, hY⟩ : ∃ Y, Y = (((((X.setCell ⟨R, 0, none⟩ (.int .i64 2)).setCell ⟨R, 1, none⟩ (.int .i64 0)).setCell ⟨R, 2, none⟩ (.int .i64 1)).setCell ⟨R, 3, none⟩ (.int .i64 0)).setCell ⟨R, 4, none⟩ (.string ⟨#[]⟩)) := ⟨_, rfl⟩
    have HY : Hid (CcAt Y R 2 0 1 0 [] ∧ Kept Nil w Y) := by rw [hY]; exact ⟨HR.out.1.all 2 0 1 0 [], ((((HR.out.2.1.setNew (p := ⟨R, 0, none⟩) HR.out.2.2 _).setNew (p := ⟨R, 1, none⟩) HR.out.2.2 _).setNew (p := ⟨R, 2, none⟩) HR.out.2.2 _).setNew (p := ⟨R, 3, none⟩) HR.out.2.2 _).setNew (p := ⟨R, 4, none⟩) HR.out.2.2 _⟩
    go_wp2
    rw [← hY]
    have j0 := blk_at HY.out.1 0 rfl
    have j1 := blk_at HY.out.1 1 rfl
    have j2 := blk_at HY.out.1 2 rfl
    have j3 := blk_at HY.out.1 3 rfl
    have j4 := blk_at HY.out.1 4 rfl
    exact bodyPost_ret (v := ccV ⟨[], 0, 2, 0, 1⟩) (by simp [results, Tryz.results84, go_sem, j0, j1, j2, j3, j4, ccV]) rfl ⟨rfl, HY.out.2⟩
def SePost (w : World) (c : Ce) (v : Int) (e : Ending) (w' : World) : Prop := e = .returned (.tuple #[ccV c, .int .i64 v]) ∧ Kept Nil w w'
set_option maxRecDepth 100000 in
set_option maxHeartbeats 8000000 in
theorem refSeenCell_any (g : Nat) (r : Rr) (ko : Option Addr) (kc : Nat) (hl : (r.v.length : Int) ≤ 4611686018427387904) (w : World) : Calls Tryz.prog 95 #[.int .i64 g, rrV r ko kc] w (SePost w (sawC g r) (versR r)) := by
  obtain ⟨rkd, rv, rn, rks⟩ := r
  simp only at hl
  unfold rrV
  simp only
  obtain ⟨W0, hW0⟩ : ∃ W, W = w.alloc (.cells #[.int .i64 rkd, .string (bs rv), .int .i64 rn, .slice ko rks.length kc] 50) := ⟨_, rfl⟩
  obtain ⟨A, HAe⟩ : ∃ A, Hid (A = w.heap.size) := ⟨_, rfl⟩
  have HA0 : Hid (W0.heap[A]? = some (.cells #[.int .i64 rkd, .string (bs rv), .int .i64 rn, .slice ko rks.length kc] 50 (0, 0))) := by rw [hW0, HAe.out]; exact blk_new _ _
  have KW0 : Hid (Kept Nil w W0) := by rw [hW0]; exact (Kept.refl _ _).alloc _
  obtain ⟨W, hW⟩ : ∃ W, W = W0.alloc (.cells #[.int .i64 0, .int .i64 0, .int .i64 0, .int .i64 0, .string ⟨#[]⟩] 140) := ⟨_, rfl⟩
  have hWs : W0.heap.size = w.heap.size + 1 := by rw [hW0]; simp
  obtain ⟨R, HRe⟩ : ∃ A, Hid (A = w.heap.size + 1) := ⟨_, rfl⟩
  have HRw : Hid (w.heap.size ≤ R) := by show _ ≤ _; rw [HRe.out]; omega
  have HRW : Hid (CcAt W R 0 0 0 0 []) := by rw [hW, HRe.out, ← hWs]; exact blk_new _ _
  have HAW : Hid (W.heap[A]? = some (.cells #[.int .i64 rkd, .string (bs rv), .int .i64 rn, .slice ko rks.length kc] 50 (0, 0))) := by rw [hW]; exact blk_past HA0.out _
  have KW : Hid (Kept Nil w W) := by rw [hW]; exact KW0.out.alloc _
  have hRA : R ≠ A := by rw [HRe.out]; have := lt_of_block HA0.out; omega
  clear hWs
  have hAR : A ≠ R := fun e => hRA e.symm
  have a1 : W.cell? ⟨A, 1, none⟩ = some (.string (bs rv)) := blk_at HAW.out 1 rfl
  have CO := refCellOf_any rv hl W
  have HUN : Hid (∀ Y, CcAt Y R 0 0 0 0 [] → ∀ c : Ce, CcAt (((((Y.setCell ⟨R, 0, none⟩ (.int .i64 c.s)).setCell ⟨R, 1, none⟩ (.int .i64 c.h)).setCell ⟨R, 2, none⟩ (.int .i64 c.g)).setCell ⟨R, 3, none⟩ (.int .i64 c.n)).setCell ⟨R, 4, none⟩ (.string (bs c.v))) R c.s c.h c.g c.n c.v) := fun Y hY c => hY.all _ _ _ _ _
  have HKN : Hid (∀ Y, Kept Nil w Y → ∀ c : Ce, Kept Nil w (((((Y.setCell ⟨R, 0, none⟩ (.int .i64 c.s)).setCell ⟨R, 1, none⟩ (.int .i64 c.h)).setCell ⟨R, 2, none⟩ (.int .i64 c.g)).setCell ⟨R, 3, none⟩ (.int .i64 c.n)).setCell ⟨R, 4, none⟩ (.string (bs c.v)))) := fun Y kY c => ((((kY.setNew (p := ⟨R, 0, none⟩) HRw.out _).setNew (p := ⟨R, 1, none⟩) HRw.out _).setNew (p := ⟨R, 2, none⟩) HRw.out _).setNew (p := ⟨R, 3, none⟩) HRw.out _).setNew (p := ⟨R, 4, none⟩) HRw.out _
  obtain ⟨S, HSd⟩ : ∃ S, Hid (S = sawC g ⟨rkd, rv, rn, rks⟩) := ⟨_, rfl⟩
  obtain ⟨vv, HVd⟩ : ∃ S, Hid (S = versR ⟨rkd, rv, rn, rks⟩) := ⟨_, rfl⟩
  rw [← HSd.out, ← HVd.out]
  go_enter Tryz.func95, Tryz.ntmps95
  go_upto_region 1 with fail
  (try simp only [← hW0])
  rw [← hW, ← HRe.out, ← HAe.out]
  clear hW0 hW HRe HAe HA0 KW0
  go_wp2_with fail
  go_fit CO
  intro ee w1 hco
  obtain ⟨c, ok, HCO, rfl, k1⟩ : ∃ (c : Ce) (ok : Bool), Hid ((ok = true ∧ ceOf rv = some c) ∨ (ok = false ∧ ceOf rv = none)) ∧ ee = .returned (.tuple #[ccV c, .bool ok]) ∧ Kept Nil W w1 := by
    rcases hco with ⟨c, h1, h2, h3⟩ | ⟨h1, h2, h3⟩
    · exact ⟨c, true, .inl ⟨rfl, by rw [← ceD_is]; exact h1⟩, h2, h3⟩
    · exact ⟨_, false, .inr ⟨rfl, by rw [← ceD_is]; exact h1⟩, h2, h3⟩
  clear hco CO
  unfold ccV
  simp only
  obtain ⟨W1, hW1⟩ : ∃ Y, Y = w1.alloc (.cells #[.int .i64 c.s, .int .i64 c.h, .int .i64 c.g, .int .i64 c.n, .string (bs c.v)] 140) := ⟨_, rfl⟩
  obtain ⟨C, HCe⟩ : ∃ A, Hid (A = w1.heap.size) := ⟨_, rfl⟩
  have HCB : Hid (CcAt W1 C c.s c.h c.g c.n c.v) := by rw [hW1, HCe.out]; exact blk_new _ _
  have K1 : Hid (Kept Nil W W1) := by rw [hW1]; exact Kept.alloc k1 _
  have hCR : C ≠ R := by rw [HCe.out]; have := lt_of_block HRW.out; have := k1.size; omega
  have hRC : R ≠ C := fun e => hCR e.symm
  go_upto_region 2 with fail
  rw [← hW1, ← HCe.out]
  clear hW1 HCe k1 a1
  have HRW1 : Hid (CcAt W1 R 0 0 0 0 []) := K1.out.block _ _ HRW.out (fun x => x)
  have HAW1 : Hid (W1.heap[A]? = some (.cells #[.int .i64 rkd, .string (bs rv), .int .i64 rn, .slice ko rks.length kc] 50 (0, 0))) := K1.out.block _ _ HAW.out (fun x => x)
  have a0 : W1.cell? ⟨A, 0, none⟩ = some (.int .i64 rkd) := blk_at HAW1.out 0 rfl
  have a2 : W1.cell? ⟨A, 2, none⟩ = some (.int .i64 rn) := blk_at HAW1.out 2 rfl
  have KW1 : Hid (Kept Nil w W1) := KW.out.trans K1.out
  obtain ⟨u, Hu⟩ : ∃ u, Hid (u = unsaid g) := ⟨_, rfl⟩
  have FC : ∀ Y, Calls Tryz.prog 84 #[.int .i64 g] Y fun e w' => e = .returned (.agg #[.int .i64 u.s, .int .i64 u.h, .int .i64 u.g, .int .i64 u.n, .string (bs u.v)]) ∧ Kept Nil Y w' := fun Y => by
    have := refFirstCell_any g Y
    rw [← Hu.out] at this
    exact this
  by_cases hkd : rkd = 1
  · obtain rfl : rn = vv := (HVd.out.trans (if_pos hkd)).symm
    have hkb : (rkd != 1) = false := by simp [hkd]
    cases ok with
    | true =>
      obtain rfl : c = S := by
        symm
        rw [HSd.out]
        have h1 : ceOf rv = some c := by rcases HCO.out with h | h; exact h.2; exact absurd h.1 (by decide)
        show (if rkd = 1 then (ceOf rv).getD (unsaid g) else unsaid g) = c
        rw [if_pos hkd, h1]
        rfl
      subst hkd
      clear FC HCO
      have m0 : W1.cell? ⟨R, 0, none⟩ = some (.int .i64 0) := blk_at HRW1.out 0 rfl
      have m1 : W1.cell? ⟨R, 1, none⟩ = some (.int .i64 0) := blk_at HRW1.out 1 rfl
      have m2 : W1.cell? ⟨R, 2, none⟩ = some (.int .i64 0) := blk_at HRW1.out 2 rfl
      have m3 : W1.cell? ⟨R, 3, none⟩ = some (.int .i64 0) := blk_at HRW1.out 3 rfl
      have m4 : W1.cell? ⟨R, 4, none⟩ = some (.string ⟨#[]⟩) := blk_at HRW1.out 4 rfl
      have o0 := blk_free HRW1.out 0
      have o1 := blk_free HRW1.out 1
      have o2 := blk_free HRW1.out 2
      have o3 := blk_free HRW1.out 3
      have o4 := blk_free HRW1.out 4
      have c0 : W1.cell? ⟨C, 0, none⟩ = some (.int .i64 c.s) := blk_at HCB.out 0 rfl
      have c1 : W1.cell? ⟨C, 1, none⟩ = some (.int .i64 c.h) := blk_at HCB.out 1 rfl
      have c2 : W1.cell? ⟨C, 2, none⟩ = some (.int .i64 c.g) := blk_at HCB.out 2 rfl
      have c3 : W1.cell? ⟨C, 3, none⟩ = some (.int .i64 c.n) := blk_at HCB.out 3 rfl
      have c4 : W1.cell? ⟨C, 4, none⟩ = some (.string (bs c.v)) := blk_at HCB.out 4 rfl
      go_upto_region 6 with fail
      go_region
      all_goals
        obtain ⟨Y, hY⟩ : ∃ Y, Y = (((((W1.setCell ⟨R, 0, none⟩ (.int .i64 c.s)).setCell ⟨R, 1, none⟩ (.int .i64 c.h)).setCell ⟨R, 2, none⟩ (.int .i64 c.g)).setCell ⟨R, 3, none⟩ (.int .i64 c.n)).setCell ⟨R, 4, none⟩ (.string (bs c.v))).drew := ⟨_, rfl⟩
        have HY : Hid (CcAt Y R c.s c.h c.g c.n c.v ∧ Kept Nil w Y) := by rw [hY]; exact ⟨HUN.out W1 HRW1.out c, (HKN.out W1 KW1.out c).drew⟩
        (try go_wp2)
        rw [← hY]
        have j0 := blk_at HY.out.1 0 rfl
        have j1 := blk_at HY.out.1 1 rfl
        have j2 := blk_at HY.out.1 2 rfl
        have j3 := blk_at HY.out.1 3 rfl
        have j4 := blk_at HY.out.1 4 rfl
        exact bodyPost_ret (v := .tuple #[ccV c, .int .i64 rn]) (by simp [results, Tryz.results95, go_sem, j0, j1, j2, j3, j4, ccV]) rfl ⟨rfl, HY.out.2⟩
    | false =>
      obtain rfl : u = S := by
        symm
        rw [HSd.out]
        have h1 : ceOf rv = none := by rcases HCO.out with h | h; exact absurd h.1 (by decide); exact h.2
        show (if rkd = 1 then (ceOf rv).getD (unsaid g) else unsaid g) = u
        rw [if_pos hkd, h1, Hu.out]
        rfl
      subst hkd
      clear HCO
      have HSP : Hid (∀ Y, Kept Nil W1 Y → Y.cell? ⟨A, 2, none⟩ = some (.int .i64 rn) ∧ CcAt Y R 0 0 0 0 [] ∧ Kept Nil w Y) := fun Y kY => ⟨blk_at (kY.block _ _ HAW1.out (fun x => x)) 2 rfl, kY.block _ _ HRW1.out (fun x => x), KW1.out.trans kY⟩
      have FCD := FC W1.drew
      have aD := (HSP.out W1.drew (Kept.refl _ _).drew).1
      go_upto_region 5 with fail
      go_region_held3 (fun w' => w'.cell? ⟨A, 2, none⟩ = some (.int .i64 rn)) (first | (with_reducible assumption) | go_keep) (first | (go_at_call 84; go_must (go_fit FCD); rintro _ wf ⟨rfl, kf⟩; have KF : Hid (Kept Nil W1 wf) := ((Kept.refl _ _).drew).trans kf; have sf := (HSP.out wf KF.out).1; have HRF : Hid (CcAt wf R 0 0 0 0 []) := (HSP.out wf KF.out).2.1; have m0 : wf.cell? ⟨R, 0, none⟩ = some (.int .i64 0) := blk_at HRF.out 0 rfl; have m1 : wf.cell? ⟨R, 1, none⟩ = some (.int .i64 0) := blk_at HRF.out 1 rfl; have m2 : wf.cell? ⟨R, 2, none⟩ = some (.int .i64 0) := blk_at HRF.out 2 rfl; have m3 : wf.cell? ⟨R, 3, none⟩ = some (.int .i64 0) := blk_at HRF.out 3 rfl; have m4 : wf.cell? ⟨R, 4, none⟩ = some (.string ⟨#[]⟩) := blk_at HRF.out 4 rfl; have o0 := blk_free HRF.out 0; have o1 := blk_free HRF.out 1; have o2 := blk_free HRF.out 2; have o3 := blk_free HRF.out 3; have o4 := blk_free HRF.out 4; clear kf))
      all_goals
        obtain ⟨Y, hY⟩ : ∃ Y, Y = (((((wf.setCell ⟨R, 0, none⟩ (.int .i64 u.s)).setCell ⟨R, 1, none⟩ (.int .i64 u.h)).setCell ⟨R, 2, none⟩ (.int .i64 u.g)).setCell ⟨R, 3, none⟩ (.int .i64 u.n)).setCell ⟨R, 4, none⟩ (.string (bs u.v))) := ⟨_, rfl⟩
        have HY : Hid (CcAt Y R u.s u.h u.g u.n u.v ∧ Kept Nil w Y) := by rw [hY]; exact ⟨HUN.out wf HRF.out u, HKN.out wf (KW1.out.trans KF.out) u⟩
        (try go_wp2)
        rw [← hY]
        have j0 := blk_at HY.out.1 0 rfl
        have j1 := blk_at HY.out.1 1 rfl
        have j2 := blk_at HY.out.1 2 rfl
        have j3 := blk_at HY.out.1 3 rfl
        have j4 := blk_at HY.out.1 4 rfl
        exact bodyPost_ret (v := .tuple #[ccV u, .int .i64 rn]) (by simp [results, Tryz.results95, go_sem, j0, j1, j2, j3, j4, ccV]) rfl ⟨rfl, HY.out.2⟩
  · obtain rfl : vv = 0 := HVd.out.trans (if_neg hkd)
    have hkb : (rkd != 1) = true := by simp [hkd]
    obtain rfl : u = S := by symm; rw [HSd.out, Hu.out]; exact if_neg hkd
    have FC1 := FC W1
    go_wp2_with fail
    go_fit FC1
    rintro ee w2 ⟨rfl, k2⟩
    have HR2 : Hid (CcAt w2 R 0 0 0 0 []) := k2.block _ _ HRW1.out (fun x => x)
    have K2 : Hid (Kept Nil w w2) := KW1.out.trans k2
    clear FC1 FC k2 HCO
    have m0 : w2.cell? ⟨R, 0, none⟩ = some (.int .i64 0) := blk_at HR2.out 0 rfl
    have m1 : w2.cell? ⟨R, 1, none⟩ = some (.int .i64 0) := blk_at HR2.out 1 rfl
    have m2 : w2.cell? ⟨R, 2, none⟩ = some (.int .i64 0) := blk_at HR2.out 2 rfl
    have m3 : w2.cell? ⟨R, 3, none⟩ = some (.int .i64 0) := blk_at HR2.out 3 rfl
    have m4 : w2.cell? ⟨R, 4, none⟩ = some (.string ⟨#[]⟩) := blk_at HR2.out 4 rfl
    have o0 := blk_free HR2.out 0
    have o1 := blk_free HR2.out 1
    have o2 := blk_free HR2.out 2
    have o3 := blk_free HR2.out 3
    have o4 := blk_free HR2.out 4
    obtain ⟨Y, hY⟩ : ∃ Y, Y = (((((w2.setCell ⟨R, 0, none⟩ (.int .i64 u.s)).setCell ⟨R, 1, none⟩ (.int .i64 u.h)).setCell ⟨R, 2, none⟩ (.int .i64 u.g)).setCell ⟨R, 3, none⟩ (.int .i64 u.n)).setCell ⟨R, 4, none⟩ (.string (bs u.v))) := ⟨_, rfl⟩
    have HY : Hid (CcAt Y R u.s u.h u.g u.n u.v ∧ Kept Nil w Y) := by rw [hY]; exact ⟨HUN.out w2 HR2.out u, HKN.out w2 K2.out u⟩
    go_wp2
    rw [← hY]
    have j0 := blk_at HY.out.1 0 rfl
    have j1 := blk_at HY.out.1 1 rfl
    have j2 := blk_at HY.out.1 2 rfl
    have j3 := blk_at HY.out.1 3 rfl
    have j4 := blk_at HY.out.1 4 rfl
    exact bodyPost_ret (v := .tuple #[ccV u, .int .i64 0]) (by simp [results, Tryz.results95, go_sem, j0, j1, j2, j3, j4, ccV]) rfl ⟨rfl, HY.out.2⟩
end Go.Proofs.YtflnjlbafchnaaaGreatDoor
