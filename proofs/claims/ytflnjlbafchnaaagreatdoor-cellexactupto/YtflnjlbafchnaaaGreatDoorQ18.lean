/-
  Joined: WCx1.
-/
import Derived.Test.YtflnjlbafchnaaaGreatDoorQ12
import Derived.Test.YtflnjlbafchnaaaGreatDoorQ16
import Derived.Test.YtflnjlbafchnaaaGreatDoorQ17
/-
  Cells: CellText (the document's).
-/
namespace Go.Proofs.YtflnjlbafchnaaaGreatDoor
open Go.RowKit

set_option maxRecDepth 100000 in
set_option maxHeartbeats 2000000 in
theorem refText00 (ch cg : Nat) (w : World) (h : Ce.Ok ⟨[], 0, 0, ch, cg⟩) :
    Calls Tryz.prog 83 #[ccV ⟨[], 0, 0, ch, cg⟩] w fun e w' => e = .returned (.string (bs (ceTxt ⟨[], 0, 0, ch, cg⟩))) ∧ Kept Nil w w' := by
  obtain ⟨y, HY⟩ : ∃ y, Hid (y = ceTxt ⟨[], 0, 0, ch, cg⟩) := ⟨_, rfl⟩
  rw [← HY.out]
  have hch : ch ≤ 999999 := h.h
  have hcc : ccV ⟨[], 0, 0, ch, cg⟩ = .agg #[.int .i64 0, .int .i64 ch, .int .i64 cg, .int .i64 0, .string (bs [])] := rfl
  rw [hcc]
  clear hcc
  obtain ⟨W, hW⟩ : ∃ W, W = w.alloc (.cells #[.int .i64 0, .int .i64 ch, .int .i64 cg, .int .i64 0, .string (bs [])] 140) := ⟨_, rfl⟩
  obtain ⟨A, HAe⟩ : ∃ A, Hid (A = w.heap.size) := ⟨_, rfl⟩
  have KW : Hid (Kept Nil w W) := by rw [hW]; exact (Kept.refl _ _).alloc _
  have HAW : Hid (W.heap[A]? = some (.cells #[.int .i64 0, .int .i64 ch, .int .i64 cg, .int .i64 0, .string (bs [])] 140 (0, 0))) := by rw [hW, HAe.out]; exact blk_new _ _
  have SS : ∀ X, Kept Nil W X → X.cell? ⟨A, 0, none⟩ = some (.int .i64 0) ∧ X.cell? ⟨A, 1, none⟩ = some (.int .i64 ch) ∧ X.cell? ⟨A, 2, none⟩ = some (.int .i64 cg) ∧ X.cell? ⟨A, 3, none⟩ = some (.int .i64 0) ∧ X.cell? ⟨A, 4, none⟩ = some (.string (bs [])) := fun X kX =>
    ⟨blk_at (kX.block _ _ HAW.out (fun x => x.elim)) 0 rfl, blk_at (kX.block _ _ HAW.out (fun x => x.elim)) 1 rfl, blk_at (kX.block _ _ HAW.out (fun x => x.elim)) 2 rfl, blk_at (kX.block _ _ HAW.out (fun x => x.elim)) 3 rfl, blk_at (kX.block _ _ HAW.out (fun x => x.elim)) 4 rfl⟩
  have Dh : ∀ X, Calls Tryz.prog 55 #[.int .i64 ch] X fun e w' => e = .returned (.string (bs (Lib.decDigits ch))) ∧ Kept Nil X w' := fun X => refDecimal_any ch (by omega) X
  have zh : (Lib.decDigits ch).length ≤ 6 := digits_len6 (by omega)
  have zp0 : (⟨#[104, 101, 114, 101, 32]⟩ : ByteArray).size ≤ 5 := by decide
  obtain ⟨r0, R0⟩ : ∃ r : List UInt8, Hid (r = (wHere ++ [32]) ++ Lib.decDigits ch) := ⟨(wHere ++ [32]) ++ Lib.decDigits ch, rfl⟩
  have g0 : (⟨#[104, 101, 114, 101, 32]⟩ : ByteArray) ++ bs (Lib.decDigits ch) = bs r0 := by rw [R0.out]; exact bs_append (wHere ++ [32]) (Lib.decDigits ch)
  have zq0 : (bs (Lib.decDigits ch)).size ≤ 6 := by rw [bs_size]; omega
  have t0 := catS _ _ _ g0 (by omega) (by omega)
  have zp1 : (bs r0).size ≤ 11 := by rw [← g0, ByteArray.size_append]; omega
  have he : r0 = y := by rw [HY.out, R0.out]; simp [ceTxt, cw, ceTail]
  rw [← he]
  clear he HY g0
  have m0 : IntKind.i64.max = 9223372036854775807 := rfl
  obtain ⟨x0, x1, x2, x3, x4⟩ := SS W (Kept.refl _ _)
  clear h
  go_enter Tryz.func83, Tryz.ntmps83
  go_upto_region 1 with fail
  rw [← hW, ← HAe.out]
  clear hW
  have KWW : Hid (Kept Nil W W) := Kept.refl _ _
  go_wp2_with fail
  go_fit (Dh W)
  rintro _ w0 ⟨rfl, k0⟩
  have K0 : Hid (Kept Nil W w0) := KWW.out.trans k0
  clear k0 x0 x1 x2 x3 x4
  obtain ⟨x0, x1, x2, x3, x4⟩ := SS w0 K0.out
  go_wp2
  go_ret
  exact ⟨rfl, KW.out.trans K0.out⟩
set_option maxRecDepth 100000 in
set_option maxHeartbeats 2000000 in
theorem refText01 (cv : List UInt8) (cn : Nat) (ch cg : Nat) (w : World) (h : Ce.Ok ⟨cv, cn, 0, ch, cg⟩) (hn : cn ≠ 0) :
    Calls Tryz.prog 83 #[ccV ⟨cv, cn, 0, ch, cg⟩] w fun e w' => e = .returned (.string (bs (ceTxt ⟨cv, cn, 0, ch, cg⟩))) ∧ Kept Nil w w' := by
  obtain ⟨y, HY⟩ : ∃ y, Hid (y = ceTxt ⟨cv, cn, 0, ch, cg⟩) := ⟨_, rfl⟩
  rw [← HY.out]
  have hch : ch ≤ 999999 := h.h
  have hcn : cn ≤ 999999 := h.n
  have hcv : cv.length ≤ 32 := h.v
  have hcp : (0 : Int) < cn := by omega
  have hcc : ccV ⟨cv, cn, 0, ch, cg⟩ = .agg #[.int .i64 0, .int .i64 ch, .int .i64 cg, .int .i64 cn, .string (bs cv)] := rfl
  rw [hcc]
  clear hcc
  obtain ⟨W, hW⟩ : ∃ W, W = w.alloc (.cells #[.int .i64 0, .int .i64 ch, .int .i64 cg, .int .i64 cn, .string (bs cv)] 140) := ⟨_, rfl⟩
  obtain ⟨A, HAe⟩ : ∃ A, Hid (A = w.heap.size) := ⟨_, rfl⟩
  have KW : Hid (Kept Nil w W) := by rw [hW]; exact (Kept.refl _ _).alloc _
  have HAW : Hid (W.heap[A]? = some (.cells #[.int .i64 0, .int .i64 ch, .int .i64 cg, .int .i64 cn, .string (bs cv)] 140 (0, 0))) := by rw [hW, HAe.out]; exact blk_new _ _
  have SS : ∀ X, Kept Nil W X → X.cell? ⟨A, 0, none⟩ = some (.int .i64 0) ∧ X.cell? ⟨A, 1, none⟩ = some (.int .i64 ch) ∧ X.cell? ⟨A, 2, none⟩ = some (.int .i64 cg) ∧ X.cell? ⟨A, 3, none⟩ = some (.int .i64 cn) ∧ X.cell? ⟨A, 4, none⟩ = some (.string (bs cv)) := fun X kX =>
    ⟨blk_at (kX.block _ _ HAW.out (fun x => x.elim)) 0 rfl, blk_at (kX.block _ _ HAW.out (fun x => x.elim)) 1 rfl, blk_at (kX.block _ _ HAW.out (fun x => x.elim)) 2 rfl, blk_at (kX.block _ _ HAW.out (fun x => x.elim)) 3 rfl, blk_at (kX.block _ _ HAW.out (fun x => x.elim)) 4 rfl⟩
  have Dh : ∀ X, Calls Tryz.prog 55 #[.int .i64 ch] X fun e w' => e = .returned (.string (bs (Lib.decDigits ch))) ∧ Kept Nil X w' := fun X => refDecimal_any ch (by omega) X
  have zh : (Lib.decDigits ch).length ≤ 6 := digits_len6 (by omega)
  have Dn : ∀ X, Calls Tryz.prog 55 #[.int .i64 cn] X fun e w' => e = .returned (.string (bs (Lib.decDigits cn))) ∧ Kept Nil X w' := fun X => refDecimal_any cn (by omega) X
  have zn : (Lib.decDigits cn).length ≤ 6 := digits_len6 (by omega)
  have zp0 : (⟨#[104, 101, 114, 101, 32]⟩ : ByteArray).size ≤ 5 := by decide
  obtain ⟨r0, R0⟩ : ∃ r : List UInt8, Hid (r = (wHere ++ [32]) ++ Lib.decDigits ch) := ⟨(wHere ++ [32]) ++ Lib.decDigits ch, rfl⟩
  have g0 : (⟨#[104, 101, 114, 101, 32]⟩ : ByteArray) ++ bs (Lib.decDigits ch) = bs r0 := by rw [R0.out]; exact bs_append (wHere ++ [32]) (Lib.decDigits ch)
  have zq0 : (bs (Lib.decDigits ch)).size ≤ 6 := by rw [bs_size]; omega
  have t0 := catS _ _ _ g0 (by omega) (by omega)
  have zp1 : (bs r0).size ≤ 11 := by rw [← g0, ByteArray.size_append]; omega
  obtain ⟨r1, R1⟩ : ∃ r : List UInt8, Hid (r = r0 ++ [32]) := ⟨r0 ++ [32], rfl⟩
  have g1 : bs r0 ++ (⟨#[32]⟩ : ByteArray) = bs r1 := by rw [R1.out]; exact bs_append r0 [32]
  have zq1 : ((⟨#[32]⟩ : ByteArray)).size ≤ 1 := by decide
  have t1 := catS _ _ _ g1 (by omega) (by omega)
  have zp2 : (bs r1).size ≤ 12 := by rw [← g1, ByteArray.size_append]; omega
  obtain ⟨r2, R2⟩ : ∃ r : List UInt8, Hid (r = r1 ++ Lib.decDigits cn) := ⟨r1 ++ Lib.decDigits cn, rfl⟩
  have g2 : bs r1 ++ bs (Lib.decDigits cn) = bs r2 := by rw [R2.out]; exact bs_append r1 (Lib.decDigits cn)
  have zq2 : (bs (Lib.decDigits cn)).size ≤ 6 := by rw [bs_size]; omega
  have t2 := catS _ _ _ g2 (by omega) (by omega)
  have zp3 : (bs r2).size ≤ 18 := by rw [← g2, ByteArray.size_append]; omega
  obtain ⟨r3, R3⟩ : ∃ r : List UInt8, Hid (r = r2 ++ [32, 61]) := ⟨r2 ++ [32, 61], rfl⟩
  have g3 : bs r2 ++ (⟨#[32, 61]⟩ : ByteArray) = bs r3 := by rw [R3.out]; exact bs_append r2 [32, 61]
  have zq3 : ((⟨#[32, 61]⟩ : ByteArray)).size ≤ 2 := by decide
  have t3 := catS _ _ _ g3 (by omega) (by omega)
  have zp4 : (bs r3).size ≤ 20 := by rw [← g3, ByteArray.size_append]; omega
  obtain ⟨r4, R4⟩ : ∃ r : List UInt8, Hid (r = r3 ++ cv) := ⟨r3 ++ cv, rfl⟩
  have g4 : bs r3 ++ bs (cv) = bs r4 := by rw [R4.out]; exact bs_append r3 (cv)
  have zq4 : (bs (cv)).size ≤ 32 := by rw [bs_size]; omega
  have t4 := catS _ _ _ g4 (by omega) (by omega)
  have zp5 : (bs r4).size ≤ 52 := by rw [← g4, ByteArray.size_append]; omega
  have he : r4 = y := by rw [HY.out, R4.out, R3.out, R2.out, R1.out, R0.out]; simp [ceTxt, cw, ceTail, hn]
  rw [← he]
  clear he HY g0 g1 g2 g3 g4
  have m0 : IntKind.i64.max = 9223372036854775807 := rfl
  obtain ⟨x0, x1, x2, x3, x4⟩ := SS W (Kept.refl _ _)
  clear h
  go_enter Tryz.func83, Tryz.ntmps83
  go_upto_region 1 with fail
  rw [← hW, ← HAe.out]
  clear hW
  have KWW : Hid (Kept Nil W W) := Kept.refl _ _
  go_wp2_with fail
  go_fit (Dh W)
  rintro _ w0 ⟨rfl, k0⟩
  have K0 : Hid (Kept Nil W w0) := KWW.out.trans k0
  clear k0 x0 x1 x2 x3 x4
  obtain ⟨x0, x1, x2, x3, x4⟩ := SS w0 K0.out
  go_wp2_with fail
  go_fit (Dn w0)
  rintro _ w1 ⟨rfl, k1⟩
  have K1 : Hid (Kept Nil W w1) := K0.out.trans k1
  clear k1 x0 x1 x2 x3 x4
  obtain ⟨x0, x1, x2, x3, x4⟩ := SS w1 K1.out
  go_wp2
  go_ret
  exact ⟨rfl, KW.out.trans K1.out⟩
set_option maxRecDepth 100000 in
set_option maxHeartbeats 2000000 in
theorem refText10 (ch cg : Nat) (w : World) (h : Ce.Ok ⟨[], 0, 1, ch, cg⟩) :
    Calls Tryz.prog 83 #[ccV ⟨[], 0, 1, ch, cg⟩] w fun e w' => e = .returned (.string (bs (ceTxt ⟨[], 0, 1, ch, cg⟩))) ∧ Kept Nil w w' := by
  obtain ⟨y, HY⟩ : ∃ y, Hid (y = ceTxt ⟨[], 0, 1, ch, cg⟩) := ⟨_, rfl⟩
  rw [← HY.out]
  have hch : ch ≤ 999999 := h.h
  have hcg : cg ≤ 4 := (h.g1 (by simp)).2
  have hcc : ccV ⟨[], 0, 1, ch, cg⟩ = .agg #[.int .i64 1, .int .i64 ch, .int .i64 cg, .int .i64 0, .string (bs [])] := rfl
  rw [hcc]
  clear hcc
  obtain ⟨W, hW⟩ : ∃ W, W = w.alloc (.cells #[.int .i64 1, .int .i64 ch, .int .i64 cg, .int .i64 0, .string (bs [])] 140) := ⟨_, rfl⟩
  obtain ⟨A, HAe⟩ : ∃ A, Hid (A = w.heap.size) := ⟨_, rfl⟩
  have KW : Hid (Kept Nil w W) := by rw [hW]; exact (Kept.refl _ _).alloc _
  have HAW : Hid (W.heap[A]? = some (.cells #[.int .i64 1, .int .i64 ch, .int .i64 cg, .int .i64 0, .string (bs [])] 140 (0, 0))) := by rw [hW, HAe.out]; exact blk_new _ _
  have SS : ∀ X, Kept Nil W X → X.cell? ⟨A, 0, none⟩ = some (.int .i64 1) ∧ X.cell? ⟨A, 1, none⟩ = some (.int .i64 ch) ∧ X.cell? ⟨A, 2, none⟩ = some (.int .i64 cg) ∧ X.cell? ⟨A, 3, none⟩ = some (.int .i64 0) ∧ X.cell? ⟨A, 4, none⟩ = some (.string (bs [])) := fun X kX =>
    ⟨blk_at (kX.block _ _ HAW.out (fun x => x.elim)) 0 rfl, blk_at (kX.block _ _ HAW.out (fun x => x.elim)) 1 rfl, blk_at (kX.block _ _ HAW.out (fun x => x.elim)) 2 rfl, blk_at (kX.block _ _ HAW.out (fun x => x.elim)) 3 rfl, blk_at (kX.block _ _ HAW.out (fun x => x.elim)) 4 rfl⟩
  have Dh : ∀ X, Calls Tryz.prog 55 #[.int .i64 ch] X fun e w' => e = .returned (.string (bs (Lib.decDigits ch))) ∧ Kept Nil X w' := fun X => refDecimal_any ch (by omega) X
  have zh : (Lib.decDigits ch).length ≤ 6 := digits_len6 (by omega)
  have Dg : ∀ X, Calls Tryz.prog 55 #[.int .i64 cg] X fun e w' => e = .returned (.string (bs (Lib.decDigits cg))) ∧ Kept Nil X w' := fun X => refDecimal_any cg (by omega) X
  have zg : (Lib.decDigits cg).length ≤ 6 := digits_len6 (by omega)
  have zp0 : (⟨#[109, 111, 118, 105, 110, 103, 32]⟩ : ByteArray).size ≤ 7 := by decide
  obtain ⟨r0, R0⟩ : ∃ r : List UInt8, Hid (r = (wMov ++ [32]) ++ Lib.decDigits ch) := ⟨(wMov ++ [32]) ++ Lib.decDigits ch, rfl⟩
  have g0 : (⟨#[109, 111, 118, 105, 110, 103, 32]⟩ : ByteArray) ++ bs (Lib.decDigits ch) = bs r0 := by rw [R0.out]; exact bs_append (wMov ++ [32]) (Lib.decDigits ch)
  have zq0 : (bs (Lib.decDigits ch)).size ≤ 6 := by rw [bs_size]; omega
  have t0 := catS _ _ _ g0 (by omega) (by omega)
  have zp1 : (bs r0).size ≤ 13 := by rw [← g0, ByteArray.size_append]; omega
  obtain ⟨r1, R1⟩ : ∃ r : List UInt8, Hid (r = r0 ++ [32]) := ⟨r0 ++ [32], rfl⟩
  have g1 : bs r0 ++ (⟨#[32]⟩ : ByteArray) = bs r1 := by rw [R1.out]; exact bs_append r0 [32]
  have zq1 : ((⟨#[32]⟩ : ByteArray)).size ≤ 1 := by decide
  have t1 := catS _ _ _ g1 (by omega) (by omega)
  have zp2 : (bs r1).size ≤ 14 := by rw [← g1, ByteArray.size_append]; omega
  obtain ⟨r2, R2⟩ : ∃ r : List UInt8, Hid (r = r1 ++ Lib.decDigits cg) := ⟨r1 ++ Lib.decDigits cg, rfl⟩
  have g2 : bs r1 ++ bs (Lib.decDigits cg) = bs r2 := by rw [R2.out]; exact bs_append r1 (Lib.decDigits cg)
  have zq2 : (bs (Lib.decDigits cg)).size ≤ 6 := by rw [bs_size]; omega
  have t2 := catS _ _ _ g2 (by omega) (by omega)
  have zp3 : (bs r2).size ≤ 20 := by rw [← g2, ByteArray.size_append]; omega
  have he : r2 = y := by rw [HY.out, R2.out, R1.out, R0.out]; simp [ceTxt, cw, ceTail]
  rw [← he]
  clear he HY g0 g1 g2
  have m0 : IntKind.i64.max = 9223372036854775807 := rfl
  obtain ⟨x0, x1, x2, x3, x4⟩ := SS W (Kept.refl _ _)
  clear h
  go_enter Tryz.func83, Tryz.ntmps83
  go_upto_region 1 with fail
  rw [← hW, ← HAe.out]
  clear hW
  have KWW : Hid (Kept Nil W W) := Kept.refl _ _
  go_wp2_with fail
  go_fit (Dh W)
  rintro _ w0 ⟨rfl, k0⟩
  have K0 : Hid (Kept Nil W w0) := KWW.out.trans k0
  clear k0 x0 x1 x2 x3 x4
  obtain ⟨x0, x1, x2, x3, x4⟩ := SS w0 K0.out
  go_wp2_with fail
  go_fit (Dg w0)
  rintro _ w1 ⟨rfl, k1⟩
  have K1 : Hid (Kept Nil W w1) := K0.out.trans k1
  clear k1 x0 x1 x2 x3 x4
  obtain ⟨x0, x1, x2, x3, x4⟩ := SS w1 K1.out
  go_wp2
  go_ret
  exact ⟨rfl, KW.out.trans K1.out⟩
set_option maxRecDepth 100000 in
set_option maxHeartbeats 2000000 in
theorem refText11 (cv : List UInt8) (cn : Nat) (ch cg : Nat) (w : World) (h : Ce.Ok ⟨cv, cn, 1, ch, cg⟩) (hn : cn ≠ 0) :
    Calls Tryz.prog 83 #[ccV ⟨cv, cn, 1, ch, cg⟩] w fun e w' => e = .returned (.string (bs (ceTxt ⟨cv, cn, 1, ch, cg⟩))) ∧ Kept Nil w w' := by
  obtain ⟨y, HY⟩ : ∃ y, Hid (y = ceTxt ⟨cv, cn, 1, ch, cg⟩) := ⟨_, rfl⟩
  rw [← HY.out]
  have hch : ch ≤ 999999 := h.h
  have hcn : cn ≤ 999999 := h.n
  have hcv : cv.length ≤ 32 := h.v
  have hcp : (0 : Int) < cn := by omega
  have hcg : cg ≤ 4 := (h.g1 (by simp)).2
  have hcc : ccV ⟨cv, cn, 1, ch, cg⟩ = .agg #[.int .i64 1, .int .i64 ch, .int .i64 cg, .int .i64 cn, .string (bs cv)] := rfl
  rw [hcc]
  clear hcc
  obtain ⟨W, hW⟩ : ∃ W, W = w.alloc (.cells #[.int .i64 1, .int .i64 ch, .int .i64 cg, .int .i64 cn, .string (bs cv)] 140) := ⟨_, rfl⟩
  obtain ⟨A, HAe⟩ : ∃ A, Hid (A = w.heap.size) := ⟨_, rfl⟩
  have KW : Hid (Kept Nil w W) := by rw [hW]; exact (Kept.refl _ _).alloc _
  have HAW : Hid (W.heap[A]? = some (.cells #[.int .i64 1, .int .i64 ch, .int .i64 cg, .int .i64 cn, .string (bs cv)] 140 (0, 0))) := by rw [hW, HAe.out]; exact blk_new _ _
  have SS : ∀ X, Kept Nil W X → X.cell? ⟨A, 0, none⟩ = some (.int .i64 1) ∧ X.cell? ⟨A, 1, none⟩ = some (.int .i64 ch) ∧ X.cell? ⟨A, 2, none⟩ = some (.int .i64 cg) ∧ X.cell? ⟨A, 3, none⟩ = some (.int .i64 cn) ∧ X.cell? ⟨A, 4, none⟩ = some (.string (bs cv)) := fun X kX =>
    ⟨blk_at (kX.block _ _ HAW.out (fun x => x.elim)) 0 rfl, blk_at (kX.block _ _ HAW.out (fun x => x.elim)) 1 rfl, blk_at (kX.block _ _ HAW.out (fun x => x.elim)) 2 rfl, blk_at (kX.block _ _ HAW.out (fun x => x.elim)) 3 rfl, blk_at (kX.block _ _ HAW.out (fun x => x.elim)) 4 rfl⟩
  have Dh : ∀ X, Calls Tryz.prog 55 #[.int .i64 ch] X fun e w' => e = .returned (.string (bs (Lib.decDigits ch))) ∧ Kept Nil X w' := fun X => refDecimal_any ch (by omega) X
  have zh : (Lib.decDigits ch).length ≤ 6 := digits_len6 (by omega)
  have Dg : ∀ X, Calls Tryz.prog 55 #[.int .i64 cg] X fun e w' => e = .returned (.string (bs (Lib.decDigits cg))) ∧ Kept Nil X w' := fun X => refDecimal_any cg (by omega) X
  have zg : (Lib.decDigits cg).length ≤ 6 := digits_len6 (by omega)
  have Dn : ∀ X, Calls Tryz.prog 55 #[.int .i64 cn] X fun e w' => e = .returned (.string (bs (Lib.decDigits cn))) ∧ Kept Nil X w' := fun X => refDecimal_any cn (by omega) X
  have zn : (Lib.decDigits cn).length ≤ 6 := digits_len6 (by omega)
  have zp0 : (⟨#[109, 111, 118, 105, 110, 103, 32]⟩ : ByteArray).size ≤ 7 := by decide
  obtain ⟨r0, R0⟩ : ∃ r : List UInt8, Hid (r = (wMov ++ [32]) ++ Lib.decDigits ch) := ⟨(wMov ++ [32]) ++ Lib.decDigits ch, rfl⟩
  have g0 : (⟨#[109, 111, 118, 105, 110, 103, 32]⟩ : ByteArray) ++ bs (Lib.decDigits ch) = bs r0 := by rw [R0.out]; exact bs_append (wMov ++ [32]) (Lib.decDigits ch)
  have zq0 : (bs (Lib.decDigits ch)).size ≤ 6 := by rw [bs_size]; omega
  have t0 := catS _ _ _ g0 (by omega) (by omega)
  have zp1 : (bs r0).size ≤ 13 := by rw [← g0, ByteArray.size_append]; omega
  obtain ⟨r1, R1⟩ : ∃ r : List UInt8, Hid (r = r0 ++ [32]) := ⟨r0 ++ [32], rfl⟩
  have g1 : bs r0 ++ (⟨#[32]⟩ : ByteArray) = bs r1 := by rw [R1.out]; exact bs_append r0 [32]
  have zq1 : ((⟨#[32]⟩ : ByteArray)).size ≤ 1 := by decide
  have t1 := catS _ _ _ g1 (by omega) (by omega)
  have zp2 : (bs r1).size ≤ 14 := by rw [← g1, ByteArray.size_append]; omega
  obtain ⟨r2, R2⟩ : ∃ r : List UInt8, Hid (r = r1 ++ Lib.decDigits cg) := ⟨r1 ++ Lib.decDigits cg, rfl⟩
  have g2 : bs r1 ++ bs (Lib.decDigits cg) = bs r2 := by rw [R2.out]; exact bs_append r1 (Lib.decDigits cg)
  have zq2 : (bs (Lib.decDigits cg)).size ≤ 6 := by rw [bs_size]; omega
  have t2 := catS _ _ _ g2 (by omega) (by omega)
  have zp3 : (bs r2).size ≤ 20 := by rw [← g2, ByteArray.size_append]; omega
  obtain ⟨r3, R3⟩ : ∃ r : List UInt8, Hid (r = r2 ++ [32]) := ⟨r2 ++ [32], rfl⟩
  have g3 : bs r2 ++ (⟨#[32]⟩ : ByteArray) = bs r3 := by rw [R3.out]; exact bs_append r2 [32]
  have zq3 : ((⟨#[32]⟩ : ByteArray)).size ≤ 1 := by decide
  have t3 := catS _ _ _ g3 (by omega) (by omega)
  have zp4 : (bs r3).size ≤ 21 := by rw [← g3, ByteArray.size_append]; omega
  obtain ⟨r4, R4⟩ : ∃ r : List UInt8, Hid (r = r3 ++ Lib.decDigits cn) := ⟨r3 ++ Lib.decDigits cn, rfl⟩
  have g4 : bs r3 ++ bs (Lib.decDigits cn) = bs r4 := by rw [R4.out]; exact bs_append r3 (Lib.decDigits cn)
  have zq4 : (bs (Lib.decDigits cn)).size ≤ 6 := by rw [bs_size]; omega
  have t4 := catS _ _ _ g4 (by omega) (by omega)
  have zp5 : (bs r4).size ≤ 27 := by rw [← g4, ByteArray.size_append]; omega
  obtain ⟨r5, R5⟩ : ∃ r : List UInt8, Hid (r = r4 ++ [32, 61]) := ⟨r4 ++ [32, 61], rfl⟩
  have g5 : bs r4 ++ (⟨#[32, 61]⟩ : ByteArray) = bs r5 := by rw [R5.out]; exact bs_append r4 [32, 61]
  have zq5 : ((⟨#[32, 61]⟩ : ByteArray)).size ≤ 2 := by decide
  have t5 := catS _ _ _ g5 (by omega) (by omega)
  have zp6 : (bs r5).size ≤ 29 := by rw [← g5, ByteArray.size_append]; omega
  obtain ⟨r6, R6⟩ : ∃ r : List UInt8, Hid (r = r5 ++ cv) := ⟨r5 ++ cv, rfl⟩
  have g6 : bs r5 ++ bs (cv) = bs r6 := by rw [R6.out]; exact bs_append r5 (cv)
  have zq6 : (bs (cv)).size ≤ 32 := by rw [bs_size]; omega
  have t6 := catS _ _ _ g6 (by omega) (by omega)
  have zp7 : (bs r6).size ≤ 61 := by rw [← g6, ByteArray.size_append]; omega
  have he : r6 = y := by rw [HY.out, R6.out, R5.out, R4.out, R3.out, R2.out, R1.out, R0.out]; simp [ceTxt, cw, ceTail, hn]
  rw [← he]
  clear he HY g0 g1 g2 g3 g4 g5 g6
  have m0 : IntKind.i64.max = 9223372036854775807 := rfl
  obtain ⟨x0, x1, x2, x3, x4⟩ := SS W (Kept.refl _ _)
  clear h
  go_enter Tryz.func83, Tryz.ntmps83
  go_upto_region 1 with fail
  rw [← hW, ← HAe.out]
  clear hW
  have KWW : Hid (Kept Nil W W) := Kept.refl _ _
  go_wp2_with fail
  go_fit (Dh W)
  rintro _ w0 ⟨rfl, k0⟩
  have K0 : Hid (Kept Nil W w0) := KWW.out.trans k0
  clear k0 x0 x1 x2 x3 x4
  obtain ⟨x0, x1, x2, x3, x4⟩ := SS w0 K0.out
  go_wp2_with fail
  go_fit (Dg w0)
  rintro _ w1 ⟨rfl, k1⟩
  have K1 : Hid (Kept Nil W w1) := K0.out.trans k1
  clear k1 x0 x1 x2 x3 x4
  obtain ⟨x0, x1, x2, x3, x4⟩ := SS w1 K1.out
  go_wp2_with fail
  go_fit (Dn w1)
  rintro _ w2 ⟨rfl, k2⟩
  have K2 : Hid (Kept Nil W w2) := K1.out.trans k2
  clear k2 x0 x1 x2 x3 x4
  obtain ⟨x0, x1, x2, x3, x4⟩ := SS w2 K2.out
  go_wp2
  go_ret
  exact ⟨rfl, KW.out.trans K2.out⟩
set_option maxRecDepth 100000 in
set_option maxHeartbeats 2000000 in
theorem refText20 (ch cg : Nat) (w : World) (h : Ce.Ok ⟨[], 0, 2, ch, cg⟩) :
    Calls Tryz.prog 83 #[ccV ⟨[], 0, 2, ch, cg⟩] w fun e w' => e = .returned (.string (bs (ceTxt ⟨[], 0, 2, ch, cg⟩))) ∧ Kept Nil w w' := by
  obtain ⟨y, HY⟩ : ∃ y, Hid (y = ceTxt ⟨[], 0, 2, ch, cg⟩) := ⟨_, rfl⟩
  rw [← HY.out]
  have hch : ch ≤ 999999 := h.h
  have hcg : cg ≤ 4 := (h.g1 (by simp)).2
  have hcc : ccV ⟨[], 0, 2, ch, cg⟩ = .agg #[.int .i64 2, .int .i64 ch, .int .i64 cg, .int .i64 0, .string (bs [])] := rfl
  rw [hcc]
  clear hcc
  obtain ⟨W, hW⟩ : ∃ W, W = w.alloc (.cells #[.int .i64 2, .int .i64 ch, .int .i64 cg, .int .i64 0, .string (bs [])] 140) := ⟨_, rfl⟩
  obtain ⟨A, HAe⟩ : ∃ A, Hid (A = w.heap.size) := ⟨_, rfl⟩
  have KW : Hid (Kept Nil w W) := by rw [hW]; exact (Kept.refl _ _).alloc _
  have HAW : Hid (W.heap[A]? = some (.cells #[.int .i64 2, .int .i64 ch, .int .i64 cg, .int .i64 0, .string (bs [])] 140 (0, 0))) := by rw [hW, HAe.out]; exact blk_new _ _
  have SS : ∀ X, Kept Nil W X → X.cell? ⟨A, 0, none⟩ = some (.int .i64 2) ∧ X.cell? ⟨A, 1, none⟩ = some (.int .i64 ch) ∧ X.cell? ⟨A, 2, none⟩ = some (.int .i64 cg) ∧ X.cell? ⟨A, 3, none⟩ = some (.int .i64 0) ∧ X.cell? ⟨A, 4, none⟩ = some (.string (bs [])) := fun X kX =>
    ⟨blk_at (kX.block _ _ HAW.out (fun x => x.elim)) 0 rfl, blk_at (kX.block _ _ HAW.out (fun x => x.elim)) 1 rfl, blk_at (kX.block _ _ HAW.out (fun x => x.elim)) 2 rfl, blk_at (kX.block _ _ HAW.out (fun x => x.elim)) 3 rfl, blk_at (kX.block _ _ HAW.out (fun x => x.elim)) 4 rfl⟩
  have Dh : ∀ X, Calls Tryz.prog 55 #[.int .i64 ch] X fun e w' => e = .returned (.string (bs (Lib.decDigits ch))) ∧ Kept Nil X w' := fun X => refDecimal_any ch (by omega) X
  have zh : (Lib.decDigits ch).length ≤ 6 := digits_len6 (by omega)
  have Dg : ∀ X, Calls Tryz.prog 55 #[.int .i64 cg] X fun e w' => e = .returned (.string (bs (Lib.decDigits cg))) ∧ Kept Nil X w' := fun X => refDecimal_any cg (by omega) X
  have zg : (Lib.decDigits cg).length ≤ 6 := digits_len6 (by omega)
  have zp0 : (⟨#[103, 111, 110, 101, 32]⟩ : ByteArray).size ≤ 5 := by decide
  obtain ⟨r0, R0⟩ : ∃ r : List UInt8, Hid (r = (wGon ++ [32]) ++ Lib.decDigits ch) := ⟨(wGon ++ [32]) ++ Lib.decDigits ch, rfl⟩
  have g0 : (⟨#[103, 111, 110, 101, 32]⟩ : ByteArray) ++ bs (Lib.decDigits ch) = bs r0 := by rw [R0.out]; exact bs_append (wGon ++ [32]) (Lib.decDigits ch)
  have zq0 : (bs (Lib.decDigits ch)).size ≤ 6 := by rw [bs_size]; omega
  have t0 := catS _ _ _ g0 (by omega) (by omega)
  have zp1 : (bs r0).size ≤ 11 := by rw [← g0, ByteArray.size_append]; omega
  obtain ⟨r1, R1⟩ : ∃ r : List UInt8, Hid (r = r0 ++ [32]) := ⟨r0 ++ [32], rfl⟩
  have g1 : bs r0 ++ (⟨#[32]⟩ : ByteArray) = bs r1 := by rw [R1.out]; exact bs_append r0 [32]
  have zq1 : ((⟨#[32]⟩ : ByteArray)).size ≤ 1 := by decide
  have t1 := catS _ _ _ g1 (by omega) (by omega)
  have zp2 : (bs r1).size ≤ 12 := by rw [← g1, ByteArray.size_append]; omega
  obtain ⟨r2, R2⟩ : ∃ r : List UInt8, Hid (r = r1 ++ Lib.decDigits cg) := ⟨r1 ++ Lib.decDigits cg, rfl⟩
  have g2 : bs r1 ++ bs (Lib.decDigits cg) = bs r2 := by rw [R2.out]; exact bs_append r1 (Lib.decDigits cg)
  have zq2 : (bs (Lib.decDigits cg)).size ≤ 6 := by rw [bs_size]; omega
  have t2 := catS _ _ _ g2 (by omega) (by omega)
  have zp3 : (bs r2).size ≤ 18 := by rw [← g2, ByteArray.size_append]; omega
  have he : r2 = y := by rw [HY.out, R2.out, R1.out, R0.out]; simp [ceTxt, cw, ceTail]
  rw [← he]
  clear he HY g0 g1 g2
  have m0 : IntKind.i64.max = 9223372036854775807 := rfl
  obtain ⟨x0, x1, x2, x3, x4⟩ := SS W (Kept.refl _ _)
  clear h
  go_enter Tryz.func83, Tryz.ntmps83
  go_upto_region 1 with fail
  rw [← hW, ← HAe.out]
  clear hW
  have KWW : Hid (Kept Nil W W) := Kept.refl _ _
  go_wp2_with fail
  go_fit (Dh W)
  rintro _ w0 ⟨rfl, k0⟩
  have K0 : Hid (Kept Nil W w0) := KWW.out.trans k0
  clear k0 x0 x1 x2 x3 x4
  obtain ⟨x0, x1, x2, x3, x4⟩ := SS w0 K0.out
  go_wp2_with fail
  go_fit (Dg w0)
  rintro _ w1 ⟨rfl, k1⟩
  have K1 : Hid (Kept Nil W w1) := K0.out.trans k1
  clear k1 x0 x1 x2 x3 x4
  obtain ⟨x0, x1, x2, x3, x4⟩ := SS w1 K1.out
  go_wp2
  go_ret
  exact ⟨rfl, KW.out.trans K1.out⟩
theorem refText_any (c : Ce) (w : World) (h : c.Ok) :
    Calls Tryz.prog 83 #[ccV c] w fun e w' => e = .returned (.string (bs (ceTxt c))) ∧ Kept Nil w w' := by
  obtain ⟨cv, cn, cs, ch, cg⟩ := c
  have hs : cs ≤ 2 := h.s
  by_cases hn : cn = 0
  · have hv : cv = [] := h.vn hn
    subst hn hv
    rcases (show cs = 0 ∨ cs = 1 ∨ cs = 2 by omega) with rfl | rfl | rfl
    · exact refText00 ch cg w h
    · exact refText10 ch cg w h
    · exact refText20 ch cg w h
  · rcases (show cs = 0 ∨ cs = 1 ∨ cs = 2 by omega) with rfl | rfl | rfl
    · exact refText01 cv cn ch cg w h hn
    · exact refText11 cv cn ch cg w h hn
    · exact absurd (h.gone rfl) hn
end Go.Proofs.YtflnjlbafchnaaaGreatDoor
