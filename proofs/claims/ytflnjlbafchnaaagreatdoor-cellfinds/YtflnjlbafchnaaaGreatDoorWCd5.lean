/-
  Cells: CellOf, whole (the document's).
-/
import Derived.Test.YtflnjlbafchnaaaGreatDoorWCd4
namespace Go.Proofs.YtflnjlbafchnaaaGreatDoor
open Go.RowKit

theorem say_cases (T : List UInt8) : (T = wHere ∧ sayOf T = some 0) ∨ (T = wMov ∧ sayOf T = some 1) ∨ (T = wGon ∧ sayOf T = some 2) ∨ (T ≠ wHere ∧ T ≠ wMov ∧ T ≠ wGon ∧ sayOf T = none) := by
  unfold sayOf
  by_cases a : T = wHere
  · exact .inl ⟨a, if_pos a⟩
  · by_cases b : T = wMov
    · exact .inr (.inl ⟨b, by rw [if_neg a, if_pos b]⟩)
    · by_cases c : T = wGon
      · exact .inr (.inr (.inl ⟨c, by rw [if_neg a, if_neg b, if_pos c]⟩))
      · exact .inr (.inr (.inr ⟨a, b, c, by rw [if_neg a, if_neg b, if_neg c]⟩))
theorem bs_eqD (T m : List UInt8) : ((bs T).toList == m) = decide (T = m) := by
  rw [bs_toList]
  by_cases h : T = m
  · rw [decide_eq_true h, h]; simp
  · rw [decide_eq_false h]; simpa using h
set_option maxRecDepth 100000 in
set_option maxHeartbeats 8000000 in
theorem refCellOf_any (l : List UInt8) (hl : (l.length : Int) ≤ 4611686018427387904) (w : World) : Calls Tryz.prog 131 #[.string (bs l)] w (CoPost w l) := by
  obtain ⟨W0, hW0⟩ : ∃ W, W = w.alloc (.cells #[.int .i64 0, .int .i64 0, .int .i64 0, .int .i64 0, .string ⟨#[]⟩] 140) := ⟨_, rfl⟩
  obtain ⟨R, HRe⟩ : ∃ A, Hid (A = w.heap.size) := ⟨_, rfl⟩
  have HR0 : Hid (CcAt W0 R 0 0 0 0 []) := by rw [hW0, HRe.out]; exact blk_new _ _
  have KW0 : Hid (Kept Nil w W0) := by rw [hW0]; exact (Kept.refl _ _).alloc _
  obtain ⟨W1, hW1⟩ : ∃ W, W = W0.alloc (.cells #[.int .i64 (-1), .int .i64 0, .int .i64 0, .int .i64 0, .string ⟨#[]⟩] 140) := ⟨_, rfl⟩
  obtain ⟨C, HCe⟩ : ∃ A, Hid (A = W0.heap.size) := ⟨_, rfl⟩
  have HA : Hid (Cc2 w W1 R C (-1) 0 0 0 []) := by
    refine ⟨?_, by rw [hW1, HCe.out]; exact blk_new _ _, by rw [hW1]; exact KW0.out.alloc _, by rw [HRe.out]; exact Nat.le_refl _, by rw [HCe.out]; exact KW0.out.size, ?_⟩
    · rw [hW1]; exact blk_past HR0.out _
    · rw [HCe.out]; have := lt_of_block HR0.out; omega
  have hRC : R ≠ C := HA.out.ne
  have hCR : C ≠ R := fun e => hRC e.symm
  have RW := refWordAt_any l 0 (Nat.zero_le _) hl W0
  rw [show l.drop 0 = l from rfl] at RW
  obtain ⟨T, HT⟩ : ∃ T, Hid (T = tw l) := ⟨_, rfl⟩
  rw [← HT.out] at RW
  have HDK : Hid (∀ k : Nat, k = 0 + T.length → l.drop k = dw l) := fun k hk => by
    have := dw_drop (l := l) (a := 0) (k := k) (by rw [hk, HT.out]; rfl)
    exact this
  have HCD : Hid (ceD l = match sayOf T with | none => none | some s => hdD s (dw l)) := by rw [HT.out]; rfl
  go_enter Tryz.func131, Tryz.ntmps131
  go_upto_region 1 with fail
  rw [← hW0, ← HRe.out]
  clear hW0 HRe
  go_wp2_with fail
  go_fit RW
  rintro ee w1 ⟨k, rfl, hk, hkl, hw1⟩
  rw [hw1]
  have HLK : Hid (l.drop k = dw l) := HDK.out k hk
  clear RW hw1 hk HDK
  go_upto_region 3 with fail
  rw [← hW1, ← HCe.out]
  clear hW1 HCe
  have x0 : W1.cell? ⟨C, 0, none⟩ = some (.int .i64 (-1)) := blk_at HA.out.c 0 rfl
  have f0 := blk_free HA.out.c 0
  have b0 := bs_eqD T [104, 101, 114, 101]
  have b1 := bs_eqD T [109, 111, 118, 105, 110, 103]
  have b2 := bs_eqD T [103, 111, 110, 101]
  rcases say_cases T with ⟨ht, hs⟩ | ⟨ht, hs⟩ | ⟨ht, hs⟩ | ⟨h0, h1, h2, hs⟩
  · have HD : Hid (ceD l = hdD 0 (l.drop k)) := by have := HCD.out; rw [hs] at this; rw [HLK.out]; exact this
    rw [decide_eq_true (show T = [104, 101, 114, 101] from ht)] at b0
    rw [decide_eq_false (show ¬ T = [109, 111, 118, 105, 110, 103] from fun e => by rw [ht] at e; exact absurd e (by decide))] at b1
    rw [decide_eq_false (show ¬ T = [103, 111, 110, 101] from fun e => by rw [ht] at e; exact absurd e (by decide))] at b2
    obtain ⟨X1, hX1⟩ : ∃ Y, Y = W1.setCell ⟨C, 0, none⟩ (.int .i64 0) := ⟨_, rfl⟩
    have HB : Hid (Cc2 w X1 R C ((0 : Nat) : Int) 0 0 0 []) := by rw [hX1]; exact ⟨HA.out.r.off HA.out.ne.symm 0 _, HA.out.c.s0 _, HA.out.kw.setNew (p := ⟨C, 0, none⟩) HA.out.cw _, HA.out.rw, HA.out.cw, HA.out.ne⟩
    have y0 : X1.cell? ⟨C, 0, none⟩ = some (.int .i64 0) := blk_at HB.out.c 0 rfl
    clear ht hs HCD
    go_upto_region 5 with fail
    rw [← hX1]
    clear hX1 x0 f0
    go_upto_if 24 with fail
    go_cut [3] from 7 to 25 (fun _ wc => wc = X1)
    case first =>
      go_wp2
      go_meet
      rfl
    case rest =>
      rw [hcut]
      apply_assumption
      exact oTail11 w X1 R C k 0 l _ _ _ _ _ _ _ _ _ _ _ _ _ _ _ _ _ _ _ _ _ _ _ _ _ _ _ _ _ _ _ _ _ _ _ _ _ _ _ _ _ _ _ _ _ _ _ _ _ _ _ _ _ _ _ _ _ _ _ _ _ _ _ _ _ _ _ _ _ _ _ _ _ _ _ _ _ _ _ _ _ _ _ _ _ _ _ _ _ _ _ _ _ _ _ _ _ HB HD hkl hl (by omega)
  · have HD : Hid (ceD l = hdD 1 (l.drop k)) := by have := HCD.out; rw [hs] at this; rw [HLK.out]; exact this
    rw [decide_eq_false (show ¬ T = [104, 101, 114, 101] from fun e => by rw [ht] at e; exact absurd e (by decide))] at b0
    rw [decide_eq_true (show T = [109, 111, 118, 105, 110, 103] from ht)] at b1
    rw [decide_eq_false (show ¬ T = [103, 111, 110, 101] from fun e => by rw [ht] at e; exact absurd e (by decide))] at b2
    obtain ⟨X1, hX1⟩ : ∃ Y, Y = W1.setCell ⟨C, 0, none⟩ (.int .i64 1) := ⟨_, rfl⟩
    have HB : Hid (Cc2 w X1 R C ((1 : Nat) : Int) 0 0 0 []) := by rw [hX1]; exact ⟨HA.out.r.off HA.out.ne.symm 0 _, HA.out.c.s0 _, HA.out.kw.setNew (p := ⟨C, 0, none⟩) HA.out.cw _, HA.out.rw, HA.out.cw, HA.out.ne⟩
    have y0 : X1.cell? ⟨C, 0, none⟩ = some (.int .i64 1) := blk_at HB.out.c 0 rfl
    clear ht hs HCD
    go_upto_region 7 with fail
    rw [← hX1]
    clear hX1 x0 f0
    go_upto_if 24 with fail
    go_cut [3] from 7 to 25 (fun _ wc => wc = X1)
    case first =>
      go_wp2
      go_meet
      rfl
    case rest =>
      rw [hcut]
      apply_assumption
      exact oTail11 w X1 R C k 1 l _ _ _ _ _ _ _ _ _ _ _ _ _ _ _ _ _ _ _ _ _ _ _ _ _ _ _ _ _ _ _ _ _ _ _ _ _ _ _ _ _ _ _ _ _ _ _ _ _ _ _ _ _ _ _ _ _ _ _ _ _ _ _ _ _ _ _ _ _ _ _ _ _ _ _ _ _ _ _ _ _ _ _ _ _ _ _ _ _ _ _ _ _ _ _ _ _ HB HD hkl hl (by omega)
  · have HD : Hid (ceD l = hdD 2 (l.drop k)) := by have := HCD.out; rw [hs] at this; rw [HLK.out]; exact this
    rw [decide_eq_false (show ¬ T = [104, 101, 114, 101] from fun e => by rw [ht] at e; exact absurd e (by decide))] at b0
    rw [decide_eq_false (show ¬ T = [109, 111, 118, 105, 110, 103] from fun e => by rw [ht] at e; exact absurd e (by decide))] at b1
    rw [decide_eq_true (show T = [103, 111, 110, 101] from ht)] at b2
    obtain ⟨X1, hX1⟩ : ∃ Y, Y = W1.setCell ⟨C, 0, none⟩ (.int .i64 2) := ⟨_, rfl⟩
    have HB : Hid (Cc2 w X1 R C ((2 : Nat) : Int) 0 0 0 []) := by rw [hX1]; exact ⟨HA.out.r.off HA.out.ne.symm 0 _, HA.out.c.s0 _, HA.out.kw.setNew (p := ⟨C, 0, none⟩) HA.out.cw _, HA.out.rw, HA.out.cw, HA.out.ne⟩
    have y0 : X1.cell? ⟨C, 0, none⟩ = some (.int .i64 2) := blk_at HB.out.c 0 rfl
    clear ht hs HCD
    go_upto_region 9 with fail
    rw [← hX1]
    clear hX1 x0 f0
    go_upto_if 24 with fail
    go_cut [3] from 7 to 25 (fun _ wc => wc = X1)
    case first =>
      go_wp2
      go_meet
      rfl
    case rest =>
      rw [hcut]
      apply_assumption
      exact oTail11 w X1 R C k 2 l _ _ _ _ _ _ _ _ _ _ _ _ _ _ _ _ _ _ _ _ _ _ _ _ _ _ _ _ _ _ _ _ _ _ _ _ _ _ _ _ _ _ _ _ _ _ _ _ _ _ _ _ _ _ _ _ _ _ _ _ _ _ _ _ _ _ _ _ _ _ _ _ _ _ _ _ _ _ _ _ _ _ _ _ _ _ _ _ _ _ _ _ _ _ _ _ _ HB HD hkl hl (by omega)
  · have HN : Hid (ceD l = none) := by have := HCD.out; rw [hs] at this; exact this
    rw [decide_eq_false (show ¬ T = [104, 101, 114, 101] from h0)] at b0
    rw [decide_eq_false (show ¬ T = [109, 111, 118, 105, 110, 103] from h1)] at b1
    rw [decide_eq_false (show ¬ T = [103, 111, 110, 101] from h2)] at b2
    clear h0 h1 h2 hs HCD
    have m0 : W1.cell? ⟨R, 0, none⟩ = some (.int .i64 0) := blk_at HA.out.r 0 rfl
    have m1 : W1.cell? ⟨R, 1, none⟩ = some (.int .i64 0) := blk_at HA.out.r 1 rfl
    have m2 : W1.cell? ⟨R, 2, none⟩ = some (.int .i64 0) := blk_at HA.out.r 2 rfl
    have m3 : W1.cell? ⟨R, 3, none⟩ = some (.int .i64 0) := blk_at HA.out.r 3 rfl
    have m4 : W1.cell? ⟨R, 4, none⟩ = some (.string ⟨#[]⟩) := blk_at HA.out.r 4 rfl
    have o0 := blk_free HA.out.r 0
    have o1 := blk_free HA.out.r 1
    have o2 := blk_free HA.out.r 2
    have o3 := blk_free HA.out.r 3
    have o4 := blk_free HA.out.r 4
    obtain ⟨Y, hY⟩ : ∃ Y, Y = (((((W1.setCell ⟨R, 0, none⟩ (.int .i64 0)).setCell ⟨R, 1, none⟩ (.int .i64 0)).setCell ⟨R, 2, none⟩ (.int .i64 0)).setCell ⟨R, 3, none⟩ (.int .i64 0)).setCell ⟨R, 4, none⟩ (.string ⟨#[]⟩)) := ⟨_, rfl⟩
    have HY : Hid (CcAt Y R 0 0 0 0 [] ∧ Kept Nil w Y) := by rw [hY]; exact HA.out.ret 0 0 0 0 []
    go_wp2
    rw [← hY]
    have j0 := blk_at HY.out.1 0 rfl
    have j1 := blk_at HY.out.1 1 rfl
    have j2 := blk_at HY.out.1 2 rfl
    have j3 := blk_at HY.out.1 3 rfl
    have j4 := blk_at HY.out.1 4 rfl
    exact bodyPost_ret (v := .tuple #[ccV ⟨[], 0, 0, 0, 0⟩, .bool false]) (by simp [results, Tryz.results131, go_sem, j0, j1, j2, j3, j4, ccV]) rfl (.inr ⟨HN.out, rfl, HY.out.2⟩)
end Go.Proofs.YtflnjlbafchnaaaGreatDoor
