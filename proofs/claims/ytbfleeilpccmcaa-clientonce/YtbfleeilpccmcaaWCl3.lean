/-
  A client: open, finish.
-/
import Derived.Test.YtbfleeilpccmcaaWCl2n
namespace Go.Proofs.Ytbfleeilpccmcaa
open Go.RowKit

def openC (c : Cl) (rk rver : Int) : Cl := if rk = 1 then forgetC { c with wt := false, se := rver, nu := 0 } else { c with wt := false }
/-- Does a result end a session? -/
def endB (rk : Int) : Bool := decide (rk = 6) || decide (rk = 7) || decide (rk = 8)
def finC (c : Cl) (rk : Int) (rval : List UInt8) (rver : Int) (ks : List (List UInt8)) : Cl :=
  { c with wt := false, st := 2, ck := 0, ckey := [], cval := [], ci := 0, rk := rk, rval := rval, rver := rver, ks := ks, se := if endB rk then 0 else c.se, nu := if endB rk then 0 else c.nu + 1 }
set_option maxRecDepth 100000 in
set_option maxHeartbeats 2000000 in
theorem open_any (b n cn kc : Nat) (c : Cl) (an ko : Option Addr) (rk rver : Int) (rval : List UInt8) (ks : List (List UInt8)) (ao : Option Addr) (cc : Nat) (w : World) (h : ClAt w b c an n cn ko kc) :
    Calls Try.prog 32 #[.pointer (some ⟨b, 0, none⟩), .agg #[.int .i64 rk, .string (bs rval), .int .i64 rver, .slice ao ks.length cc]] w fun e w' => e = .returned (.tuple #[]) ∧ ClAt w' b (openC c rk rver) an n cn ko kc ∧ Kept (One b) w w' := by
  obtain ⟨W, hW⟩ : ∃ W, W = w.alloc (.cells #[.int .i64 rk, .string (bs rval), .int .i64 rver, .slice ao ks.length cc] 45) := ⟨_, rfl⟩
  obtain ⟨C, HCe⟩ : ∃ C, Hid (C = w.heap.size) := ⟨_, rfl⟩
  have HC : Hid (W.heap[C]? = some (.cells #[.int .i64 rk, .string (bs rval), .int .i64 rver, .slice ao ks.length cc] 45 (0, 0))) := by rw [hW, HCe.out]; exact blk_new _ _
  have HW : Hid (ClAt W b c an n cn ko kc) := by rw [hW]; exact h.past _
  have KW : Hid (Kept Nil w W) := by rw [hW]; exact (Kept.refl _ _).alloc _
  have hCn : w.heap.size ≤ C := by have := HCe.out; omega
  have hbC : b ≠ C := by have := lt_of_block h; have := HCe.out; omega
  have hCb : C ≠ b := fun e => hbC e.symm
  have c0 : W.cell? ⟨C, 0, none⟩ = some (.int .i64 rk) := blk_at HC.out 0 rfl
  have c2 : W.cell? ⟨C, 2, none⟩ = some (.int .i64 rver) := blk_at HC.out 2 rfl
  have q3 : W.cell? ⟨b, 3, none⟩ = some (.int .i64 c.se) := blk_at HW.out 3 rfl
  have q4 : W.cell? ⟨b, 4, none⟩ = some (.int .i64 c.nu) := blk_at HW.out 4 rfl
  have q5 : W.cell? ⟨b, 5, none⟩ = some (.bool c.wt) := blk_at HW.out 5 rfl
  have f3 : W.frozen? ⟨b, 3, none⟩ = false := blk_free HW.out 3
  have f4 : W.frozen? ⟨b, 4, none⟩ = false := blk_free HW.out 4
  have f5 : W.frozen? ⟨b, 5, none⟩ = false := blk_free HW.out 5
  clear h
  by_cases hk : rk = 1
  · subst hk
    have HE : Hid (openC c 1 rver = forgetC { c with wt := false, se := rver, nu := 0 }) := rfl
    rw [HE.out]
    obtain ⟨Y, hY⟩ : ∃ Y, Y = (((W.setCell ⟨b, 5, none⟩ (.bool false)).setCell ⟨b, 3, none⟩ (.int .i64 rver)).setCell ⟨b, 4, none⟩ (.int .i64 0)) := ⟨_, rfl⟩
    have HY : Hid (ClAt Y b { c with wt := false, se := rver, nu := 0 } an n cn ko kc ∧ Kept (One b) w Y) := by
      rw [hY]
      exact ⟨(((HW.out.s5 _).s3 _).s4 _), (((KW.out.one.setCell (p := ⟨b, 5, none⟩) (fun _ => rfl) _).setCell (p := ⟨b, 3, none⟩) (fun _ => rfl) _).setCell (p := ⟨b, 4, none⟩) (fun _ => rfl) _)⟩
    have FY := forget_any b n cn kc _ an ko Y HY.out.1
    go_enter Try.func32, Try.ntmps32
    go_upto_region 1 with fail
    rw [← hW, ← HCe.out]
    clear hW
    go_upto_region 4 with fail
    rw [← hY]
    clear hY c0 c2 q3 q4 q5 f3 f4 f5
    go_wp2_with fail
    go_fit FY
    rintro e w2 ⟨rfl, h2, k2⟩
    have H2 : Hid (_ ∧ _) := ⟨h2, HY.out.2.trans k2⟩
    clear h2 k2
    go_wp2
    go_end0
    exact ⟨rfl, H2.out⟩
  · have HE : Hid (openC c rk rver = { c with wt := false }) := by show _ = _; unfold openC; rw [if_neg hk]
    rw [HE.out]
    have hk' : (rk == 1) = false := by simpa using hk
    obtain ⟨Y, hY⟩ : ∃ Y, Y = (W.setCell ⟨b, 5, none⟩ (.bool false)) := ⟨_, rfl⟩
    have HY : Hid (ClAt Y b { c with wt := false } an n cn ko kc ∧ Kept (One b) w Y) := by
      rw [hY]
      exact ⟨(HW.out.s5 _), (KW.out.one.setCell (p := ⟨b, 5, none⟩) (fun _ => rfl) _)⟩
    go_enter Try.func32, Try.ntmps32
    go_upto_region 1 with fail
    rw [← hW, ← HCe.out]
    clear hW
    go_wp2
    rw [← hY]
    go_end0
    exact ⟨rfl, HY.out⟩
set_option maxRecDepth 100000 in
set_option maxHeartbeats 2000000 in
theorem finish_any (b n cn kc : Nat) (c : Cl) (an ko : Option Addr) (G : Nat → Prop) (rk rver : Int) (rval : List UInt8) (ks : List (List UInt8)) (ao : Option Addr) (cc : Nat) (w : World) (h : ClAt w b c an n cn ko kc) (hu : 0 ≤ c.nu) (hu2 : c.nu ≤ 4611686018427387904) (hr : KIn G w ao cc ks) (hG : ¬ G b) :
    Calls Try.prog 33 #[.pointer (some ⟨b, 0, none⟩), .agg #[.int .i64 rk, .string (bs rval), .int .i64 rver, .slice ao ks.length cc]] w fun e w' => ∃ ao' c', e = .returned (.tuple #[]) ∧ ClAt w' b (finC c rk rval rver ks) an n cn ao' c' ∧ OwnK w.heap.size w' ao' c' ks ∧ Kept (One b) w w' := by
  obtain ⟨W, hW⟩ : ∃ W, W = w.alloc (.cells #[.int .i64 rk, .string (bs rval), .int .i64 rver, .slice ao ks.length cc] 45) := ⟨_, rfl⟩
  obtain ⟨C, HCe⟩ : ∃ C, Hid (C = w.heap.size) := ⟨_, rfl⟩
  have HC : Hid (W.heap[C]? = some (.cells #[.int .i64 rk, .string (bs rval), .int .i64 rver, .slice ao ks.length cc] 45 (0, 0))) := by rw [hW, HCe.out]; exact blk_new _ _
  have HW : Hid (ClAt W b c an n cn ko kc) := by rw [hW]; exact h.past _
  have KW : Hid (Kept Nil w W) := by rw [hW]; exact (Kept.refl _ _).alloc _
  have hCn : w.heap.size ≤ C := by have := HCe.out; omega
  have hbC : b ≠ C := by have := lt_of_block h; have := HCe.out; omega
  have hCb : C ≠ b := fun e => hbC e.symm
  have c0 : W.cell? ⟨C, 0, none⟩ = some (.int .i64 rk) := blk_at HC.out 0 rfl
  have c1 : W.cell? ⟨C, 1, none⟩ = some (.string (bs rval)) := blk_at HC.out 1 rfl
  have c2 : W.cell? ⟨C, 2, none⟩ = some (.int .i64 rver) := blk_at HC.out 2 rfl
  have c3 : W.cell? ⟨C, 3, none⟩ = some (.slice ao ks.length cc) := blk_at HC.out 3 rfl
  have q5 : W.cell? ⟨b, 5, none⟩ = some (.bool c.wt) := blk_at HW.out 5 rfl
  have f5 : W.frozen? ⟨b, 5, none⟩ = false := blk_free HW.out 5
  have hbw : b < w.heap.size := lt_of_block h
  obtain ⟨X, hX⟩ : ∃ X, X = W.setCell ⟨b, 5, none⟩ (.bool false) := ⟨_, rfl⟩
  have HX : Hid (ClAt X b { c with wt := false } an n cn ko kc ∧ X.heap[C]? = some (.cells #[.int .i64 rk, .string (bs rval), .int .i64 rver, .slice ao ks.length cc] 45 (0, 0)) ∧ Kept (One b) w X ∧ w.heap.size ≤ X.heap.size) := by
    rw [hX]
    refine ⟨HW.out.s5 _, blk_other (a := ⟨b, 5, none⟩) HC.out hCb _, KW.out.one.setCell (p := ⟨b, 5, none⟩) (fun _ => rfl) _, ?_⟩
    have := KW.out.size
    simpa [World.setCell] using this
  have RO := ownResult_any X.heap.size cc rk rver rval ao ks X (hr.far HX.out.2.2.1 (fun k _ hk e => hG (by have e2 : k = b := e; rw [← e2]; exact hk))).row hr.non hr.len
  have d0 : X.cell? ⟨C, 0, none⟩ = some (.int .i64 rk) := blk_at HX.out.2.1 0 rfl
  have d1 : X.cell? ⟨C, 1, none⟩ = some (.string (bs rval)) := blk_at HX.out.2.1 1 rfl
  have d2 : X.cell? ⟨C, 2, none⟩ = some (.int .i64 rver) := blk_at HX.out.2.1 2 rfl
  have d3 : X.cell? ⟨C, 3, none⟩ = some (.slice ao ks.length cc) := blk_at HX.out.2.1 3 rfl
  clear h hr
  go_enter Try.func33, Try.ntmps33
  go_upto_region 1 with fail
  rw [← hW, ← HCe.out]
  clear hW
  go_upto_region 2 with fail
  rw [← hX]
  clear hX c0 c1 c2 c3 q5 f5
  go_upto_region 3 with (go_at_call 38; go_fit RO; rintro _ w1 ⟨ao', c', rfl, o1, k1⟩; have HO1 : Hid (OwnK X.heap.size w1 ao' c' ks) := o1; have K1 : Hid (Kept Nil X w1) := k1; clear o1 k1; have HB1 : Hid (ClAt w1 b { c with wt := false } an n cn ko kc) := HX.out.1.kept K1.out; have HC1 : Hid (w1.heap[C]? = some (.cells #[.int .i64 rk, .string (bs rval), .int .i64 rver, .slice ao ks.length cc] 45 (0, 0))) := K1.out.block _ _ HX.out.2.1 (fun x => x.elim); have q3 : w1.cell? ⟨b, 3, none⟩ = some (.int .i64 c.se) := blk_at HB1.out 3 rfl; have q4 : w1.cell? ⟨b, 4, none⟩ = some (.int .i64 c.nu) := blk_at HB1.out 4 rfl; have q9 : w1.cell? ⟨b, 9, none⟩ = some (.int .i64 c.st) := blk_at HB1.out 9 rfl; have q10 : w1.cell? ⟨b, 10, none⟩ = some (.int .i64 c.ck) := blk_at HB1.out 10 rfl; have q11 : w1.cell? ⟨b, 11, none⟩ = some (.string (bs c.ckey)) := blk_at HB1.out 11 rfl; have q12 : w1.cell? ⟨b, 12, none⟩ = some (.string (bs c.cval)) := blk_at HB1.out 12 rfl; have q13 : w1.cell? ⟨b, 13, none⟩ = some (.int .i64 c.ci) := blk_at HB1.out 13 rfl; have q14 : w1.cell? ⟨b, 14, none⟩ = some (.int .i64 c.rk) := blk_at HB1.out 14 rfl; have q15 : w1.cell? ⟨b, 15, none⟩ = some (.string (bs c.rval)) := blk_at HB1.out 15 rfl; have q16 : w1.cell? ⟨b, 16, none⟩ = some (.int .i64 c.rver) := blk_at HB1.out 16 rfl; have q17 : w1.cell? ⟨b, 17, none⟩ = some (.slice ko c.ks.length kc) := blk_at HB1.out 17 rfl; have f3 : w1.frozen? ⟨b, 3, none⟩ = false := blk_free HB1.out 3; have f4 : w1.frozen? ⟨b, 4, none⟩ = false := blk_free HB1.out 4; have f9 : w1.frozen? ⟨b, 9, none⟩ = false := blk_free HB1.out 9; have f10 : w1.frozen? ⟨b, 10, none⟩ = false := blk_free HB1.out 10; have f11 : w1.frozen? ⟨b, 11, none⟩ = false := blk_free HB1.out 11; have f12 : w1.frozen? ⟨b, 12, none⟩ = false := blk_free HB1.out 12; have f13 : w1.frozen? ⟨b, 13, none⟩ = false := blk_free HB1.out 13; have f14 : w1.frozen? ⟨b, 14, none⟩ = false := blk_free HB1.out 14; have f15 : w1.frozen? ⟨b, 15, none⟩ = false := blk_free HB1.out 15; have f16 : w1.frozen? ⟨b, 16, none⟩ = false := blk_free HB1.out 16; have f17 : w1.frozen? ⟨b, 17, none⟩ = false := blk_free HB1.out 17; have e0 : w1.cell? ⟨C, 0, none⟩ = some (.int .i64 rk) := blk_at HC1.out 0 rfl)
  have hbX : b < X.heap.size := lt_of_block HX.out.1
  rcases (show rk = 6 ∨ rk = 7 ∨ rk = 8 ∨ (rk ≠ 6 ∧ rk ≠ 7 ∧ rk ≠ 8) by omega) with hk | hk | hk | ⟨n6, n7, n8⟩
  · subst hk
    have HE : Hid (finC c 6 rval rver ks = { c with wt := false, st := 2, ck := 0, ckey := [], cval := [], ci := 0, rk := 6, rval := rval, rver := rver, ks := ks, se := 0, nu := 0 }) := rfl
    obtain ⟨Y, hY⟩ : ∃ Y, Y = ((((((((((((w1.setCell ⟨b, 9, none⟩ (.int .i64 2)).setCell ⟨b, 10, none⟩ (.int .i64 0)).setCell ⟨b, 11, none⟩ (.string ⟨#[]⟩)).setCell ⟨b, 12, none⟩ (.string ⟨#[]⟩)).setCell ⟨b, 13, none⟩ (.int .i64 0)).setCell ⟨b, 14, none⟩ (.int .i64 6)).setCell ⟨b, 15, none⟩ (.string (bs rval))).setCell ⟨b, 16, none⟩ (.int .i64 rver)).setCell ⟨b, 17, none⟩ (.slice ao' ks.length c')).setCell ⟨b, 4, none⟩ (.int .i64 (c.nu + 1))).setCell ⟨b, 3, none⟩ (.int .i64 0)).setCell ⟨b, 4, none⟩ (.int .i64 0)) := ⟨_, rfl⟩
    have HY : Hid (ClAt Y b (finC c 6 rval rver ks) an n cn ao' c' ∧ OwnK w.heap.size Y ao' c' ks ∧ Kept (One b) w Y) := by
      rw [hY, HE.out]
      exact ⟨((((((((((((HB1.out.s9 _).s10 _).s11 []).s12 []).s13 _).s14 _).s15 _).s16 _).s17 ks ao' c').s4 _).s3 _).s4 _), own_mono (ownsRow_setCell_below (a := ⟨b, 4, none⟩) (ownsRow_setCell_below (a := ⟨b, 3, none⟩) (ownsRow_setCell_below (a := ⟨b, 4, none⟩) (ownsRow_setCell_below (a := ⟨b, 17, none⟩) (ownsRow_setCell_below (a := ⟨b, 16, none⟩) (ownsRow_setCell_below (a := ⟨b, 15, none⟩) (ownsRow_setCell_below (a := ⟨b, 14, none⟩) (ownsRow_setCell_below (a := ⟨b, 13, none⟩) (ownsRow_setCell_below (a := ⟨b, 12, none⟩) (ownsRow_setCell_below (a := ⟨b, 11, none⟩) (ownsRow_setCell_below (a := ⟨b, 10, none⟩) (ownsRow_setCell_below (a := ⟨b, 9, none⟩) HO1.out hbX _) hbX _) hbX _) hbX _) hbX _) hbX _) hbX _) hbX _) hbX _) hbX _) hbX _) hbX _) HX.out.2.2.2, (((((((((((((HX.out.2.2.1.trans K1.out.one).setCell (p := ⟨b, 9, none⟩) (fun _ => rfl) _).setCell (p := ⟨b, 10, none⟩) (fun _ => rfl) _).setCell (p := ⟨b, 11, none⟩) (fun _ => rfl) _).setCell (p := ⟨b, 12, none⟩) (fun _ => rfl) _).setCell (p := ⟨b, 13, none⟩) (fun _ => rfl) _).setCell (p := ⟨b, 14, none⟩) (fun _ => rfl) _).setCell (p := ⟨b, 15, none⟩) (fun _ => rfl) _).setCell (p := ⟨b, 16, none⟩) (fun _ => rfl) _).setCell (p := ⟨b, 17, none⟩) (fun _ => rfl) _).setCell (p := ⟨b, 4, none⟩) (fun _ => rfl) _).setCell (p := ⟨b, 3, none⟩) (fun _ => rfl) _).setCell (p := ⟨b, 4, none⟩) (fun _ => rfl) _)⟩
    go_wp2
    rw [← hY]
    go_end0
    exact ⟨ao', c', rfl, HY.out⟩
  · subst hk
    have HE : Hid (finC c 7 rval rver ks = { c with wt := false, st := 2, ck := 0, ckey := [], cval := [], ci := 0, rk := 7, rval := rval, rver := rver, ks := ks, se := 0, nu := 0 }) := rfl
    obtain ⟨Y, hY⟩ : ∃ Y, Y = ((((((((((((w1.setCell ⟨b, 9, none⟩ (.int .i64 2)).setCell ⟨b, 10, none⟩ (.int .i64 0)).setCell ⟨b, 11, none⟩ (.string ⟨#[]⟩)).setCell ⟨b, 12, none⟩ (.string ⟨#[]⟩)).setCell ⟨b, 13, none⟩ (.int .i64 0)).setCell ⟨b, 14, none⟩ (.int .i64 7)).setCell ⟨b, 15, none⟩ (.string (bs rval))).setCell ⟨b, 16, none⟩ (.int .i64 rver)).setCell ⟨b, 17, none⟩ (.slice ao' ks.length c')).setCell ⟨b, 4, none⟩ (.int .i64 (c.nu + 1))).setCell ⟨b, 3, none⟩ (.int .i64 0)).setCell ⟨b, 4, none⟩ (.int .i64 0)) := ⟨_, rfl⟩
    have HY : Hid (ClAt Y b (finC c 7 rval rver ks) an n cn ao' c' ∧ OwnK w.heap.size Y ao' c' ks ∧ Kept (One b) w Y) := by
      rw [hY, HE.out]
      exact ⟨((((((((((((HB1.out.s9 _).s10 _).s11 []).s12 []).s13 _).s14 _).s15 _).s16 _).s17 ks ao' c').s4 _).s3 _).s4 _), own_mono (ownsRow_setCell_below (a := ⟨b, 4, none⟩) (ownsRow_setCell_below (a := ⟨b, 3, none⟩) (ownsRow_setCell_below (a := ⟨b, 4, none⟩) (ownsRow_setCell_below (a := ⟨b, 17, none⟩) (ownsRow_setCell_below (a := ⟨b, 16, none⟩) (ownsRow_setCell_below (a := ⟨b, 15, none⟩) (ownsRow_setCell_below (a := ⟨b, 14, none⟩) (ownsRow_setCell_below (a := ⟨b, 13, none⟩) (ownsRow_setCell_below (a := ⟨b, 12, none⟩) (ownsRow_setCell_below (a := ⟨b, 11, none⟩) (ownsRow_setCell_below (a := ⟨b, 10, none⟩) (ownsRow_setCell_below (a := ⟨b, 9, none⟩) HO1.out hbX _) hbX _) hbX _) hbX _) hbX _) hbX _) hbX _) hbX _) hbX _) hbX _) hbX _) hbX _) HX.out.2.2.2, (((((((((((((HX.out.2.2.1.trans K1.out.one).setCell (p := ⟨b, 9, none⟩) (fun _ => rfl) _).setCell (p := ⟨b, 10, none⟩) (fun _ => rfl) _).setCell (p := ⟨b, 11, none⟩) (fun _ => rfl) _).setCell (p := ⟨b, 12, none⟩) (fun _ => rfl) _).setCell (p := ⟨b, 13, none⟩) (fun _ => rfl) _).setCell (p := ⟨b, 14, none⟩) (fun _ => rfl) _).setCell (p := ⟨b, 15, none⟩) (fun _ => rfl) _).setCell (p := ⟨b, 16, none⟩) (fun _ => rfl) _).setCell (p := ⟨b, 17, none⟩) (fun _ => rfl) _).setCell (p := ⟨b, 4, none⟩) (fun _ => rfl) _).setCell (p := ⟨b, 3, none⟩) (fun _ => rfl) _).setCell (p := ⟨b, 4, none⟩) (fun _ => rfl) _)⟩
    go_wp2
    rw [← hY]
    go_end0
    exact ⟨ao', c', rfl, HY.out⟩
  · subst hk
    have HE : Hid (finC c 8 rval rver ks = { c with wt := false, st := 2, ck := 0, ckey := [], cval := [], ci := 0, rk := 8, rval := rval, rver := rver, ks := ks, se := 0, nu := 0 }) := rfl
    obtain ⟨Y, hY⟩ : ∃ Y, Y = ((((((((((((w1.setCell ⟨b, 9, none⟩ (.int .i64 2)).setCell ⟨b, 10, none⟩ (.int .i64 0)).setCell ⟨b, 11, none⟩ (.string ⟨#[]⟩)).setCell ⟨b, 12, none⟩ (.string ⟨#[]⟩)).setCell ⟨b, 13, none⟩ (.int .i64 0)).setCell ⟨b, 14, none⟩ (.int .i64 8)).setCell ⟨b, 15, none⟩ (.string (bs rval))).setCell ⟨b, 16, none⟩ (.int .i64 rver)).setCell ⟨b, 17, none⟩ (.slice ao' ks.length c')).setCell ⟨b, 4, none⟩ (.int .i64 (c.nu + 1))).setCell ⟨b, 3, none⟩ (.int .i64 0)).setCell ⟨b, 4, none⟩ (.int .i64 0)) := ⟨_, rfl⟩
    have HY : Hid (ClAt Y b (finC c 8 rval rver ks) an n cn ao' c' ∧ OwnK w.heap.size Y ao' c' ks ∧ Kept (One b) w Y) := by
      rw [hY, HE.out]
      exact ⟨((((((((((((HB1.out.s9 _).s10 _).s11 []).s12 []).s13 _).s14 _).s15 _).s16 _).s17 ks ao' c').s4 _).s3 _).s4 _), own_mono (ownsRow_setCell_below (a := ⟨b, 4, none⟩) (ownsRow_setCell_below (a := ⟨b, 3, none⟩) (ownsRow_setCell_below (a := ⟨b, 4, none⟩) (ownsRow_setCell_below (a := ⟨b, 17, none⟩) (ownsRow_setCell_below (a := ⟨b, 16, none⟩) (ownsRow_setCell_below (a := ⟨b, 15, none⟩) (ownsRow_setCell_below (a := ⟨b, 14, none⟩) (ownsRow_setCell_below (a := ⟨b, 13, none⟩) (ownsRow_setCell_below (a := ⟨b, 12, none⟩) (ownsRow_setCell_below (a := ⟨b, 11, none⟩) (ownsRow_setCell_below (a := ⟨b, 10, none⟩) (ownsRow_setCell_below (a := ⟨b, 9, none⟩) HO1.out hbX _) hbX _) hbX _) hbX _) hbX _) hbX _) hbX _) hbX _) hbX _) hbX _) hbX _) hbX _) HX.out.2.2.2, (((((((((((((HX.out.2.2.1.trans K1.out.one).setCell (p := ⟨b, 9, none⟩) (fun _ => rfl) _).setCell (p := ⟨b, 10, none⟩) (fun _ => rfl) _).setCell (p := ⟨b, 11, none⟩) (fun _ => rfl) _).setCell (p := ⟨b, 12, none⟩) (fun _ => rfl) _).setCell (p := ⟨b, 13, none⟩) (fun _ => rfl) _).setCell (p := ⟨b, 14, none⟩) (fun _ => rfl) _).setCell (p := ⟨b, 15, none⟩) (fun _ => rfl) _).setCell (p := ⟨b, 16, none⟩) (fun _ => rfl) _).setCell (p := ⟨b, 17, none⟩) (fun _ => rfl) _).setCell (p := ⟨b, 4, none⟩) (fun _ => rfl) _).setCell (p := ⟨b, 3, none⟩) (fun _ => rfl) _).setCell (p := ⟨b, 4, none⟩) (fun _ => rfl) _)⟩
    go_wp2
    rw [← hY]
    go_end0
    exact ⟨ao', c', rfl, HY.out⟩
  · have k6 : (rk == 6) = false := by simpa using n6
    have k7 : (rk == 7) = false := by simpa using n7
    have k8 : (rk == 8) = false := by simpa using n8
    have HE : Hid (finC c rk rval rver ks = { c with wt := false, st := 2, ck := 0, ckey := [], cval := [], ci := 0, rk := rk, rval := rval, rver := rver, ks := ks, se := c.se, nu := c.nu + 1 }) := by
      have e : endB rk = false := by simp [endB, n6, n7, n8]
      show _ = _
      unfold finC
      rw [e]
      rfl
    clear n6 n7 n8
    obtain ⟨Y, hY⟩ : ∃ Y, Y = ((((((((((w1.setCell ⟨b, 9, none⟩ (.int .i64 2)).setCell ⟨b, 10, none⟩ (.int .i64 0)).setCell ⟨b, 11, none⟩ (.string ⟨#[]⟩)).setCell ⟨b, 12, none⟩ (.string ⟨#[]⟩)).setCell ⟨b, 13, none⟩ (.int .i64 0)).setCell ⟨b, 14, none⟩ (.int .i64 rk)).setCell ⟨b, 15, none⟩ (.string (bs rval))).setCell ⟨b, 16, none⟩ (.int .i64 rver)).setCell ⟨b, 17, none⟩ (.slice ao' ks.length c')).setCell ⟨b, 4, none⟩ (.int .i64 (c.nu + 1))) := ⟨_, rfl⟩
    have HY : Hid (ClAt Y b (finC c rk rval rver ks) an n cn ao' c' ∧ OwnK w.heap.size Y ao' c' ks ∧ Kept (One b) w Y) := by
      rw [hY, HE.out]
      exact ⟨((((((((((HB1.out.s9 _).s10 _).s11 []).s12 []).s13 _).s14 _).s15 _).s16 _).s17 ks ao' c').s4 _), own_mono (ownsRow_setCell_below (a := ⟨b, 4, none⟩) (ownsRow_setCell_below (a := ⟨b, 17, none⟩) (ownsRow_setCell_below (a := ⟨b, 16, none⟩) (ownsRow_setCell_below (a := ⟨b, 15, none⟩) (ownsRow_setCell_below (a := ⟨b, 14, none⟩) (ownsRow_setCell_below (a := ⟨b, 13, none⟩) (ownsRow_setCell_below (a := ⟨b, 12, none⟩) (ownsRow_setCell_below (a := ⟨b, 11, none⟩) (ownsRow_setCell_below (a := ⟨b, 10, none⟩) (ownsRow_setCell_below (a := ⟨b, 9, none⟩) HO1.out hbX _) hbX _) hbX _) hbX _) hbX _) hbX _) hbX _) hbX _) hbX _) hbX _) HX.out.2.2.2, (((((((((((HX.out.2.2.1.trans K1.out.one).setCell (p := ⟨b, 9, none⟩) (fun _ => rfl) _).setCell (p := ⟨b, 10, none⟩) (fun _ => rfl) _).setCell (p := ⟨b, 11, none⟩) (fun _ => rfl) _).setCell (p := ⟨b, 12, none⟩) (fun _ => rfl) _).setCell (p := ⟨b, 13, none⟩) (fun _ => rfl) _).setCell (p := ⟨b, 14, none⟩) (fun _ => rfl) _).setCell (p := ⟨b, 15, none⟩) (fun _ => rfl) _).setCell (p := ⟨b, 16, none⟩) (fun _ => rfl) _).setCell (p := ⟨b, 17, none⟩) (fun _ => rfl) _).setCell (p := ⟨b, 4, none⟩) (fun _ => rfl) _)⟩
    go_wp2
    rw [← hY]
    go_end0
    exact ⟨ao', c', rfl, HY.out⟩

end Go.Proofs.Ytbfleeilpccmcaa
