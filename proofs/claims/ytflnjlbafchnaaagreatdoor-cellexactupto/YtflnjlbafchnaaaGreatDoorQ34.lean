/-
  Joined: WCe8, WCe9.
-/
import Derived.Test.YtflnjlbafchnaaaGreatDoorQ33
import Derived.Test.YtflnjlbafchnaaaGreatDoorQ15
/-
  Cells: saw (the program): what a group says, by the result of a Get.
-/
namespace Go.Proofs.YtflnjlbafchnaaaGreatDoor
open Go.RowKit

def siV (c : Ce) (m : Int) : Value := .agg #[.string (bs c.v), .int .i64 c.n, .int .i64 c.s, .int .i64 c.h, .int .i64 c.g, .int .i64 m]
def SiAt (w : World) (A : Nat) (c : Ce) (m : Int) : Prop := w.heap[A]? = some (.cells #[.string (bs c.v), .int .i64 c.n, .int .i64 c.s, .int .i64 c.h, .int .i64 c.g, .int .i64 m] 133 (0, 0))
theorem SiAt.set {w : World} {A : Nat} {c0 : Ce} {m0 : Int} (h : SiAt w A c0 m0) (c : Ce) (m : Int) : SiAt ((((((w.setCell ⟨A, 0, none⟩ (.string (bs c.v))).setCell ⟨A, 1, none⟩ (.int .i64 c.n)).setCell ⟨A, 2, none⟩ (.int .i64 c.s)).setCell ⟨A, 3, none⟩ (.int .i64 c.h)).setCell ⟨A, 4, none⟩ (.int .i64 c.g)).setCell ⟨A, 5, none⟩ (.int .i64 m)) A c m := blk_set (blk_set (blk_set (blk_set (blk_set (blk_set h 0 _) 1 _) 2 _) 3 _) 4 _) 5 _
theorem kept6 {w x : World} {A : Nat} (h : Kept Nil w x) (hA : w.heap.size ≤ A) (a b c d e f : Value) : Kept Nil w ((((((x.setCell ⟨A, 0, none⟩ a).setCell ⟨A, 1, none⟩ b).setCell ⟨A, 2, none⟩ c).setCell ⟨A, 3, none⟩ d).setCell ⟨A, 4, none⟩ e).setCell ⟨A, 5, none⟩ f) :=
  (((((h.setNew (p := ⟨A, 0, none⟩) hA _).setNew (p := ⟨A, 1, none⟩) hA _).setNew (p := ⟨A, 2, none⟩) hA _).setNew (p := ⟨A, 3, none⟩) hA _).setNew (p := ⟨A, 4, none⟩) hA _).setNew (p := ⟨A, 5, none⟩) hA _
theorem ceAt5 {w : World} {A : Nat} {c0 : Ce} (h : CeAt w A c0) (c : Ce) : CeAt (((((w.setCell ⟨A, 0, none⟩ (.string (bs c.v))).setCell ⟨A, 1, none⟩ (.int .i64 c.n)).setCell ⟨A, 2, none⟩ (.int .i64 c.s)).setCell ⟨A, 3, none⟩ (.int .i64 c.h)).setCell ⟨A, 4, none⟩ (.int .i64 c.g)) A c := blk_set (blk_set (blk_set (blk_set (blk_set h 0 _) 1 _) 2 _) 3 _) 4 _
def SawPost (w : World) (c : Ce) (m : Int) (e : Ending) (w' : World) : Prop := e = .returned (siV c m) ∧ Kept Nil w w'
set_option maxRecDepth 100000 in
set_option maxHeartbeats 4000000 in
theorem saw_any (g : Nat) (r : Rr) (ko : Option Addr) (kc : Nat) (w : World) (hr : r.v.length < 4294967281) (hw : 14 ≤ w.heap.size) (hL : LW w) :
    Calls Tryz.prog 125 #[.int .i64 g, rrV r ko kc] w (SawPost w (sawC g r) (versR r)) := by
  obtain ⟨c, HC⟩ : ∃ c, Hid (c = sawC g r) := ⟨_, rfl⟩
  obtain ⟨m, HM⟩ : ∃ m, Hid (m = versR r) := ⟨_, rfl⟩
  rw [← HC.out, ← HM.out]
  obtain ⟨kd, v, n, ks⟩ := r
  unfold rrV
  simp only
  obtain ⟨W, hW⟩ : ∃ W, W = (w.alloc (.cells #[.int .i64 kd, .string (bs v), .int .i64 n, .slice ko ks.length kc] 50)).alloc (.cells #[.string ⟨#[]⟩, .int .i64 0, .int .i64 0, .int .i64 0, .int .i64 0, .int .i64 0] 133) := ⟨_, rfl⟩
  obtain ⟨A, HAe⟩ : ∃ A, Hid (A = w.heap.size) := ⟨_, rfl⟩
  obtain ⟨R, HRe⟩ : ∃ A, Hid (A = w.heap.size + 1) := ⟨_, rfl⟩
  have KW : Hid (Kept Nil w W) := by rw [hW]; exact ((Kept.refl _ _).alloc _).alloc _
  have HA : Hid (W.heap[A]? = some (.cells #[.int .i64 kd, .string (bs v), .int .i64 n, .slice ko ks.length kc] 50 (0, 0))) := by rw [hW, HAe.out]; exact blk_past (blk_new _ _) _
  have HR : Hid (SiAt W R ceZ 0) := by rw [hW, HRe.out]; exact blk_new1 _ _ _
  have HRw : Hid (w.heap.size ≤ R) := by show _ ≤ _; rw [HRe.out]; omega
  have HW20 : Hid (14 ≤ W.heap.size) := Nat.le_trans hw KW.out.size
  have HLW : Hid (LW W) := hL.kept KW.out
  have hAR : A ≠ R := by rw [HAe.out, HRe.out]; omega
  have q0 : W.cell? ⟨A, 0, none⟩ = some (.int .i64 kd) := blk_at HA.out 0 rfl
  have q1 : W.cell? ⟨A, 1, none⟩ = some (.string (bs v)) := blk_at HA.out 1 rfl
  clear hL hw
  by_cases c1 : kd = 1
  · subst c1
    have hv : v.length < 4294967281 := hr
    have HM2 : Hid (m = n) := by show _ = _; rw [HM.out]; rfl
    obtain ⟨o, HO⟩ : ∃ o, Hid (o = ceOf v) := ⟨_, rfl⟩
    have HC2 : Hid (c = o.getD (unsaid g)) := by show _ = _; rw [HC.out, HO.out]; rfl
    have RD := cread_any v hv W HW20.out HLW.out
    rw [← HO.out] at RD
    go_enter Tryz.func125, Tryz.ntmps125
    go_upto_region 1 with fail
    rw [← hW, ← HRe.out, ← HAe.out]
    clear hW
    go_wp2_with fail
    go_fit RD
    rintro _ w1 ⟨rfl, k1⟩
    have K1 : Hid (Kept Nil W w1) := k1
    clear k1 RD
    obtain ⟨d, Hd⟩ : ∃ d, Hid (d = o.getD ceZ) := ⟨_, rfl⟩
    obtain ⟨b, Hb⟩ : ∃ b, Hid (b = o.isSome) := ⟨_, rfl⟩
    have HC4 : Hid ((b = true → c = d) ∧ (b = false → c = unsaid g)) := by
      constructor
      · intro e
        rw [Hb.out] at e
        rw [HC2.out, Hd.out]
        cases o with
        | none => cases e
        | some x => rfl
      · intro e
        rw [Hb.out] at e
        rw [HC2.out]
        cases o with
        | none => rfl
        | some x => cases e
    rw [← Hd.out, ← Hb.out]
    clear Hd Hb HO HC2
    unfold ceV
    obtain ⟨V, hV⟩ : ∃ V, V = w1.alloc (.cells #[.string (bs d.v), .int .i64 d.n, .int .i64 d.s, .int .i64 d.h, .int .i64 d.g] 131) := ⟨_, rfl⟩
    obtain ⟨B, HBe⟩ : ∃ A, Hid (A = w1.heap.size) := ⟨_, rfl⟩
    have KV : Hid (Kept Nil W V) := by rw [hV]; exact K1.out.alloc _
    have HB : Hid (CeAt V B d) := by rw [hV, HBe.out]; exact blk_new _ _
    have HBW : Hid (W.heap.size ≤ B) := by show _ ≤ _; rw [HBe.out]; exact K1.out.size
    have hBR : B ≠ R := by have := HBW.out; have := lt_of_block HR.out; omega
    have hBA : B ≠ A := by have := HBW.out; have := lt_of_block HA.out; omega
    have HBw : Hid (w.heap.size ≤ B) := Nat.le_trans KW.out.size HBW.out
    have HAV : Hid (V.heap[A]? = some (.cells #[.int .i64 1, .string (bs v), .int .i64 n, .slice ko ks.length kc] 50 (0, 0))) := KV.out.block _ _ HA.out (fun x => x)
    have HRV : Hid (SiAt V R ceZ 0) := KV.out.block _ _ HR.out (fun x => x)
    clear q0 q1
    go_upto_region 4 with fail
    rw [← hV, ← HBe.out]
    clear hV
    cases b with
    | true =>
      have HC3 : Hid (c = d) := HC4.out.1 rfl
      have HR7 : Hid (SiAt V R ceZ 0) := HRV.out
      have HB7 : Hid (CeAt V B d) := HB.out
      have HA7 : Hid (V.heap[A]? = some (.cells #[.int .i64 1, .string (bs v), .int .i64 n, .slice ko ks.length kc] 50 (0, 0))) := HAV.out
      have HK7 : Hid (Kept Nil w V) := KW.out.trans KV.out
      have f0 := blk_free HR7.out 0
      have f1 := blk_free HR7.out 1
      have f2 := blk_free HR7.out 2
      have f3 := blk_free HR7.out 3
      have f4 := blk_free HR7.out 4
      have f5 := blk_free HR7.out 5
      have x0 : V.cell? ⟨R, 0, none⟩ = some (.string (bs [])) := blk_at HR7.out 0 rfl
      have x1 : V.cell? ⟨R, 1, none⟩ = some (.int .i64 0) := blk_at HR7.out 1 rfl
      have x2 : V.cell? ⟨R, 2, none⟩ = some (.int .i64 0) := blk_at HR7.out 2 rfl
      have x3 : V.cell? ⟨R, 3, none⟩ = some (.int .i64 0) := blk_at HR7.out 3 rfl
      have x4 : V.cell? ⟨R, 4, none⟩ = some (.int .i64 0) := blk_at HR7.out 4 rfl
      have x5 : V.cell? ⟨R, 5, none⟩ = some (.int .i64 0) := blk_at HR7.out 5 rfl
      have b0 : V.cell? ⟨B, 0, none⟩ = some (.string (bs d.v)) := blk_at HB7.out 0 rfl
      have b1 : V.cell? ⟨B, 1, none⟩ = some (.int .i64 d.n) := blk_at HB7.out 1 rfl
      have b2 : V.cell? ⟨B, 2, none⟩ = some (.int .i64 d.s) := blk_at HB7.out 2 rfl
      have b3 : V.cell? ⟨B, 3, none⟩ = some (.int .i64 d.h) := blk_at HB7.out 3 rfl
      have b4 : V.cell? ⟨B, 4, none⟩ = some (.int .i64 d.g) := blk_at HB7.out 4 rfl
      have a2 : V.cell? ⟨A, 2, none⟩ = some (.int .i64 n) := blk_at HA7.out 2 rfl
      obtain ⟨Y, hY⟩ : ∃ Y, Y = ((((((V.setCell ⟨R, 0, none⟩ (.string (bs d.v))).setCell ⟨R, 1, none⟩ (.int .i64 d.n)).setCell ⟨R, 2, none⟩ (.int .i64 d.s)).setCell ⟨R, 3, none⟩ (.int .i64 d.h)).setCell ⟨R, 4, none⟩ (.int .i64 d.g)).setCell ⟨R, 5, none⟩ (.int .i64 n)) := ⟨_, rfl⟩
      have HY : Hid (SiAt Y R (d) n ∧ Kept Nil w Y) := by rw [hY]; exact ⟨HR7.out.set _ _, kept6 HK7.out HRw.out _ _ _ _ _ _⟩
      go_wp2
      rw [← hY]
      clear hY x0 x1 x2 x3 x4 x5
      have j0 := blk_at HY.out.1 0 rfl
      have j1 := blk_at HY.out.1 1 rfl
      have j2 := blk_at HY.out.1 2 rfl
      have j3 := blk_at HY.out.1 3 rfl
      have j4 := blk_at HY.out.1 4 rfl
      have j5 := blk_at HY.out.1 5 rfl
      exact bodyPost_ret (v := siV (d) n) (by simp [results, Tryz.results125, go_sem, j0, j1, j2, j3, j4, j5, siV]) rfl ⟨by rw [HC3.out, HM2.out], HY.out.2⟩
    | false =>
      have HC3 : Hid (c = unsaid g) := HC4.out.2 rfl
      have US := unsaid_any g V
      go_wp2_with fail
      go_fit US
      rintro _ w2 ⟨rfl, k2⟩
      have K2 : Hid (Kept Nil V w2) := k2
      clear k2 US
      have HB2 : Hid (CeAt w2 B d) := K2.out.block _ _ HB.out (fun x => x)
      have z0 := blk_free HB2.out 0
      have z1 := blk_free HB2.out 1
      have z2 := blk_free HB2.out 2
      have z3 := blk_free HB2.out 3
      have z4 := blk_free HB2.out 4
      have y0 : w2.cell? ⟨B, 0, none⟩ = some (.string (bs d.v)) := blk_at HB2.out 0 rfl
      have y1 : w2.cell? ⟨B, 1, none⟩ = some (.int .i64 d.n) := blk_at HB2.out 1 rfl
      have y2 : w2.cell? ⟨B, 2, none⟩ = some (.int .i64 d.s) := blk_at HB2.out 2 rfl
      have y3 : w2.cell? ⟨B, 3, none⟩ = some (.int .i64 d.h) := blk_at HB2.out 3 rfl
      have y4 : w2.cell? ⟨B, 4, none⟩ = some (.int .i64 d.g) := blk_at HB2.out 4 rfl
      unfold ceV
      obtain ⟨U, hU⟩ : ∃ U, U = ((((w2.setCell ⟨B, 0, none⟩ (.string (bs (unsaid g).v))).setCell ⟨B, 1, none⟩ (.int .i64 (unsaid g).n)).setCell ⟨B, 2, none⟩ (.int .i64 (unsaid g).s)).setCell ⟨B, 3, none⟩ (.int .i64 (unsaid g).h)).setCell ⟨B, 4, none⟩ (.int .i64 (unsaid g).g) := ⟨_, rfl⟩
      have HB7 : Hid (CeAt U B (unsaid g)) := by rw [hU]; exact ceAt5 HB2.out _
      have KU : Hid (Kept (One B) w2 U) := by rw [hU]; exact (((((Kept.refl _ _).setCell (p := ⟨B, 0, none⟩) (fun _ => rfl) _).setCell (p := ⟨B, 1, none⟩) (fun _ => rfl) _).setCell (p := ⟨B, 2, none⟩) (fun _ => rfl) _).setCell (p := ⟨B, 3, none⟩) (fun _ => rfl) _).setCell (p := ⟨B, 4, none⟩) (fun _ => rfl) _
      have HR7 : Hid (SiAt U R ceZ 0) := KU.out.block _ _ (K2.out.block _ _ HRV.out (fun x => x)) (fun e => hBR (show R = B from e).symm)
      have HA7 : Hid (U.heap[A]? = some (.cells #[.int .i64 1, .string (bs v), .int .i64 n, .slice ko ks.length kc] 50 (0, 0))) := KU.out.block _ _ (K2.out.block _ _ HAV.out (fun x => x)) (fun e => hBA (show A = B from e).symm)
      have HK7 : Hid (Kept Nil w U) := kept_one_new ((KW.out.trans KV.out).trans K2.out) KU.out HBw.out
      go_upto_region 6 with fail
      rw [← hU]
      clear hU y0 y1 y2 y3 y4 z0 z1 z2 z3 z4
      have f0 := blk_free HR7.out 0
      have f1 := blk_free HR7.out 1
      have f2 := blk_free HR7.out 2
      have f3 := blk_free HR7.out 3
      have f4 := blk_free HR7.out 4
      have f5 := blk_free HR7.out 5
      have x0 : U.cell? ⟨R, 0, none⟩ = some (.string (bs [])) := blk_at HR7.out 0 rfl
      have x1 : U.cell? ⟨R, 1, none⟩ = some (.int .i64 0) := blk_at HR7.out 1 rfl
      have x2 : U.cell? ⟨R, 2, none⟩ = some (.int .i64 0) := blk_at HR7.out 2 rfl
      have x3 : U.cell? ⟨R, 3, none⟩ = some (.int .i64 0) := blk_at HR7.out 3 rfl
      have x4 : U.cell? ⟨R, 4, none⟩ = some (.int .i64 0) := blk_at HR7.out 4 rfl
      have x5 : U.cell? ⟨R, 5, none⟩ = some (.int .i64 0) := blk_at HR7.out 5 rfl
      have b0 : U.cell? ⟨B, 0, none⟩ = some (.string (bs (unsaid g).v)) := blk_at HB7.out 0 rfl
      have b1 : U.cell? ⟨B, 1, none⟩ = some (.int .i64 (unsaid g).n) := blk_at HB7.out 1 rfl
      have b2 : U.cell? ⟨B, 2, none⟩ = some (.int .i64 (unsaid g).s) := blk_at HB7.out 2 rfl
      have b3 : U.cell? ⟨B, 3, none⟩ = some (.int .i64 (unsaid g).h) := blk_at HB7.out 3 rfl
      have b4 : U.cell? ⟨B, 4, none⟩ = some (.int .i64 (unsaid g).g) := blk_at HB7.out 4 rfl
      have a2 : U.cell? ⟨A, 2, none⟩ = some (.int .i64 n) := blk_at HA7.out 2 rfl
      obtain ⟨Y, hY⟩ : ∃ Y, Y = ((((((U.setCell ⟨R, 0, none⟩ (.string (bs (unsaid g).v))).setCell ⟨R, 1, none⟩ (.int .i64 (unsaid g).n)).setCell ⟨R, 2, none⟩ (.int .i64 (unsaid g).s)).setCell ⟨R, 3, none⟩ (.int .i64 (unsaid g).h)).setCell ⟨R, 4, none⟩ (.int .i64 (unsaid g).g)).setCell ⟨R, 5, none⟩ (.int .i64 n)) := ⟨_, rfl⟩
      have HY : Hid (SiAt Y R ((unsaid g)) n ∧ Kept Nil w Y) := by rw [hY]; exact ⟨HR7.out.set _ _, kept6 HK7.out HRw.out _ _ _ _ _ _⟩
      go_wp2
      rw [← hY]
      clear hY x0 x1 x2 x3 x4 x5
      have j0 := blk_at HY.out.1 0 rfl
      have j1 := blk_at HY.out.1 1 rfl
      have j2 := blk_at HY.out.1 2 rfl
      have j3 := blk_at HY.out.1 3 rfl
      have j4 := blk_at HY.out.1 4 rfl
      have j5 := blk_at HY.out.1 5 rfl
      exact bodyPost_ret (v := siV ((unsaid g)) n) (by simp [results, Tryz.results125, go_sem, j0, j1, j2, j3, j4, j5, siV]) rfl ⟨by rw [HC3.out, HM2.out], HY.out.2⟩
  · have hne : ((kd : Int) != 1) = true := by simp; exact c1
    have HE : Hid (c = unsaid g ∧ m = 0) := ⟨by rw [HC.out]; exact if_neg c1, by rw [HM.out]; exact if_neg c1⟩
    have z0 := blk_free HR.out 0
    have z1 := blk_free HR.out 1
    have z2 := blk_free HR.out 2
    have z3 := blk_free HR.out 3
    have z4 := blk_free HR.out 4
    have z5 := blk_free HR.out 5
    have US := unsaid_any g W
    clear hr
    go_enter Tryz.func125, Tryz.ntmps125
    go_upto_region 1 with fail
    rw [← hW, ← HRe.out, ← HAe.out]
    clear hW
    go_wp2_with fail
    go_fit US
    rintro _ w1 ⟨rfl, k1⟩
    have HR1 : Hid (SiAt w1 R ceZ 0) := k1.block _ _ HR.out (fun x => x)
    have K1 : Hid (Kept Nil w w1) := KW.out.trans k1
    clear k1 US z0 z1 z2 z3 z4 z5
    have z0 := blk_free HR1.out 0
    have z1 := blk_free HR1.out 1
    have z2 := blk_free HR1.out 2
    have z3 := blk_free HR1.out 3
    have z4 := blk_free HR1.out 4
    have z5 := blk_free HR1.out 5
    have x0 : w1.cell? ⟨R, 0, none⟩ = some (.string (bs [])) := blk_at HR1.out 0 rfl
    have x1 : w1.cell? ⟨R, 1, none⟩ = some (.int .i64 0) := blk_at HR1.out 1 rfl
    have x2 : w1.cell? ⟨R, 2, none⟩ = some (.int .i64 0) := blk_at HR1.out 2 rfl
    have x3 : w1.cell? ⟨R, 3, none⟩ = some (.int .i64 0) := blk_at HR1.out 3 rfl
    have x4 : w1.cell? ⟨R, 4, none⟩ = some (.int .i64 0) := blk_at HR1.out 4 rfl
    have x5 : w1.cell? ⟨R, 5, none⟩ = some (.int .i64 0) := blk_at HR1.out 5 rfl
    unfold ceV
    obtain ⟨Y, hY⟩ : ∃ Y, Y = (((((w1.setCell ⟨R, 0, none⟩ (.string (bs (unsaid g).v))).setCell ⟨R, 1, none⟩ (.int .i64 (unsaid g).n)).setCell ⟨R, 2, none⟩ (.int .i64 (unsaid g).s)).setCell ⟨R, 3, none⟩ (.int .i64 (unsaid g).h)).setCell ⟨R, 4, none⟩ (.int .i64 (unsaid g).g)).setCell ⟨R, 5, none⟩ (.int .i64 0) := ⟨_, rfl⟩
    have HY : Hid (SiAt Y R (unsaid g) 0 ∧ Kept Nil w Y) := by rw [hY]; exact ⟨HR1.out.set _ _, kept6 K1.out HRw.out _ _ _ _ _ _⟩
    go_wp2
    rw [← hY]
    clear hY x0 x1 x2 x3 x4 x5
    have j0 := blk_at HY.out.1 0 rfl
    have j1 := blk_at HY.out.1 1 rfl
    have j2 := blk_at HY.out.1 2 rfl
    have j3 := blk_at HY.out.1 3 rfl
    have j4 := blk_at HY.out.1 4 rfl
    have j5 := blk_at HY.out.1 5 rfl
    exact bodyPost_ret (v := siV (unsaid g) 0) (by simp [results, Tryz.results125, go_sem, j0, j1, j2, j3, j4, j5, siV]) rfl ⟨by rw [HE.out.1, HE.out.2], HY.out.2⟩
end Go.Proofs.YtflnjlbafchnaaaGreatDoor

/-
  Cells: a command on just one key, plainly as kv.Apply does it; apply (the program).
-/
namespace Go.Proofs.YtflnjlbafchnaaaGreatDoor
open Go.RowKit

def onePr (k v : List UInt8) (n : Nat) : List Pr := if v = [] ∧ n = 0 then [] else [⟨k, v, n⟩]
theorem one_zero (k : List UInt8) : onePr k [] 0 = [] := if_pos ⟨rfl, rfl⟩
theorem one_pos (k v : List UInt8) {n : Nat} (h : 1 ≤ n) : onePr k v n = [⟨k, v, n⟩] := if_neg (fun e => by omega)
/-- Keys, values and numbers that a cell may have. -/
structure CmOk (kd : Int) (k val : List UInt8) (m : Int) (v : List UInt8) (n : Nat) : Prop where
  oc : isCmd kd k val m = true
  okd : 1 ≤ kd ∧ kd ≤ 5
  ok1 : 1 ≤ k.length
  ok2 : k.length ≤ 16
  oval : val.length ≤ 32
  ov : v.length ≤ 32
  on : n ≤ 999999
  ovn : n = 0 → v = []
theorem ap_one {kd : Int} {k val : List UInt8} {m : Int} {v : List UInt8} {n : Nat} (h : CmOk kd k val m v n) :
    apP kd k val m (onePr k v n) = onePr k (cmV kd val m v n) (cmN kd m n) ∧ apR kd k val m (onePr k v n) = cmR kd m v n := by
  have hv := h.ov
  have hval := h.oval
  have hn := h.on
  have hk1 := h.ok1
  have hkne : k ≠ [] := fun e => by rw [e] at hk1; simp at hk1
  by_cases hz : n = 0
  · have hve := h.ovn hz
    subst hz hve
    rw [one_zero]
    have hok : pairsOk [] = true := rfl
    have hs := spot_abs (key := k) (ps := []) (fun p hp => by cases hp)
    unfold apP apR
    rw [hok, h.oc, hs.1, hs.2]
    simp only [Bool.and_self, if_true]
    have hl : lowP k [] = 0 := rfl
    have hr : ∀ x : List UInt8, x.length ≤ 64 → roomB ([] : List Pr).length 0 x = true := fun x hx => by unfold roomB; simp [hx]
    have hp : ∀ x : List UInt8, x.length ≤ 64 → putP k x 0 (lowP k []) [] = [⟨k, x, 1⟩] ∧ putRr x 0 ([] : List Pr).length = ⟨1, [], 0 + 1, []⟩ := fun x hx => by
      unfold putP putRr
      rw [hr x hx]
      exact ⟨rfl, rfl⟩
    have h5 := h.okd
    rcases (show kd = 1 ∨ kd = 2 ∨ kd = 3 ∨ kd = 4 ∨ kd = 5 by omega) with e | e | e | e | e <;> subst e
    · obtain ⟨p1, p2⟩ := hp val (by omega)
      refine ⟨?_, ?_⟩
      · show putP k val 0 (lowP k []) [] = _
        rw [p1]; exact (one_pos k val (by decide)).symm
      · show putRr val 0 ([] : List Pr).length = _
        rw [p2]; rfl
    · exact ⟨(one_zero k).symm, rfl⟩
    · exact ⟨(one_zero k).symm, rfl⟩
    · refine ⟨?_, ?_⟩
      · show swapP k val m 0 (lowP k []) [] = _
        unfold swapP
        by_cases hm : (0 : Int) = m
        · rw [if_pos hm, (hp val (by omega)).1]
          have e1 : cmV 4 val m [] 0 = val := by unfold cmV; simp [hm]
          have e2 : cmN 4 m 0 = 1 := by unfold cmN; simp [hm]
          rw [e1, e2, one_pos k val (by decide)]
          rfl
        · rw [if_neg hm]
          have e1 : cmV 4 val m [] 0 = [] := by unfold cmV; simp [hm]
          have e2 : cmN 4 m 0 = 0 := by unfold cmN; simp [hm]
          rw [e1, e2, one_zero]
      · show swapRr val [] m 0 ([] : List Pr).length = _
        unfold swapRr cmR
        by_cases hm : (0 : Int) = m
        · rw [if_pos hm, (hp val (by omega)).2]
          simp [hm]
        · rw [if_neg hm]
          simp [hm]
    · obtain ⟨p1, p2⟩ := hp ([] ++ val) (by simp; omega)
      refine ⟨?_, ?_⟩
      · show putP k ([] ++ val) 0 (lowP k []) [] = _
        rw [p1]; exact (one_pos k ([] ++ val) (by decide)).symm
      · show putRr ([] ++ val) 0 ([] : List Pr).length = _
        rw [p2]; rfl
  · have hn1 : 1 ≤ n := by omega
    rw [one_pos k v hn1]
    have hok : pairsOk [⟨k, v, n⟩] = true := ok_of (by simp) (by simp [Srt]) (fun p hp => by
      simp at hp
      subst hp
      exact prOk_mk hkne h.ok2 (by show v.length ≤ 64; omega) (by show (1 : Int) ≤ n; omega) (by show (n : Int) ≤ 1099511627775; omega))
    have hsrt : Srt [(⟨k, v, n⟩ : Pr)] := (pairs_ok hok).2.1
    have hmem : (⟨k, v, n⟩ : Pr) ∈ [(⟨k, v, n⟩ : Pr)] := by simp
    have hs := spot_at hsrt hmem (rfl : (⟨k, v, n⟩ : Pr).k = k)
    have hl : lowP k [⟨k, v, n⟩] = 0 := there_low hsrt (j := 0) (by simp) rfl
    unfold apP apR
    rw [hok, h.oc, hs.1, hs.2, hl]
    simp only [Bool.and_self, if_true]
    have hr : ∀ x : List UInt8, x.length ≤ 64 → roomB [(⟨k, v, n⟩ : Pr)].length (n : Int) x = true := fun x hx => by
      unfold roomB
      have h2 : (n : Int) < 1099511627775 := by omega
      simp [hx, h2]
    have hp : ∀ x : List UInt8, x.length ≤ 64 → putP k x n 0 [⟨k, v, n⟩] = [⟨k, x, (n : Int) + 1⟩] ∧ putRr x n [(⟨k, v, n⟩ : Pr)].length = ⟨1, [], (n : Int) + 1, []⟩ := fun x hx => by
      unfold putP putRr
      rw [hr x hx]
      have h1 : ¬ (n : Int) = 0 := by omega
      refine ⟨?_, rfl⟩
      rw [if_neg (by decide), if_neg h1]
      rfl
    have h5 := h.okd
    have hn0 : ¬ (n : Int) = 0 := by omega
    rcases (show kd = 1 ∨ kd = 2 ∨ kd = 3 ∨ kd = 4 ∨ kd = 5 by omega) with e | e | e | e | e <;> subst e
    · obtain ⟨p1, p2⟩ := hp val (by omega)
      refine ⟨?_, ?_⟩
      · show putP k val n 0 [⟨k, v, n⟩] = _
        rw [p1]; exact (one_pos k val (Nat.succ_pos n)).symm
      · show putRr val n [(⟨k, v, n⟩ : Pr)].length = _
        rw [p2]; rfl
    · exact ⟨(one_pos k v hn1).symm, rfl⟩
    · refine ⟨?_, rfl⟩
      show dropP n 0 [⟨k, v, n⟩] = _
      unfold dropP
      rw [if_neg hn0]
      exact (one_zero k).symm
    · refine ⟨?_, ?_⟩
      · show swapP k val m n 0 [⟨k, v, n⟩] = _
        unfold swapP
        by_cases hm : (n : Int) = m
        · rw [if_pos hm, (hp val (by omega)).1]
          have e1 : cmV 4 val m v n = val := by unfold cmV; simp [hm]
          have e2 : cmN 4 m n = n + 1 := by unfold cmN; simp [hm]
          rw [e1, e2, one_pos k val (by omega)]
          rfl
        · rw [if_neg hm]
          have e1 : cmV 4 val m v n = v := by unfold cmV; simp [hm]
          have e2 : cmN 4 m n = n := by unfold cmN; simp [hm]
          rw [e1, e2, one_pos k v hn1]
      · show swapRr val v m n [(⟨k, v, n⟩ : Pr)].length = _
        unfold swapRr cmR
        by_cases hm : (n : Int) = m
        · rw [if_pos hm, (hp val (by omega)).2]
          simp [hm]
        · rw [if_neg hm]
          simp [hm]
    · obtain ⟨p1, p2⟩ := hp (v ++ val) (by simp; omega)
      refine ⟨?_, ?_⟩
      · show putP k (v ++ val) n 0 [⟨k, v, n⟩] = _
        rw [p1]; exact (one_pos k (v ++ val) (Nat.succ_pos n)).symm
      · show putRr (v ++ val) n [(⟨k, v, n⟩ : Pr)].length = _
        rw [p2]; rfl
end Go.Proofs.YtflnjlbafchnaaaGreatDoor
